package store

import (
	"fmt"
	"maps"
	"math"
	"math/rand"
	"slices"
	"strings"
	"testing"

	"keyway/api"
	"keyway/btree"
	"keyway/chain"
	"keyway/cursor"
	"keyway/disk"
	"keyway/pager"
)

const (
	mostKey    = 64      // bytes of the longest key, as the chapters say it
	mostInline = 48      // bytes of the longest text that stands in its leaf
	mostText   = 1 << 16 // bytes of the longest text
	part       = 234     // bytes of a text that a page has

	states = 2 // sectors ahead of the pages

	formatActs = 5 // two sectors, flushed, and the state, flushed
	stateActs  = 2 // reading both sectors of states
)

// lengths is how many bytes a text may have: the edges of what stands in a leaf, of one page and of two, some between, and the longest one.
var lengths = []int{0, 1, mostInline - 1, mostInline, mostInline + 1, part - 1, part, part + 1, 300, 2 * part, 2*part + 1, 1000, 10 * part, mostText - 1, mostText}

// huge is more bytes than a text may have.
var huge = textOf(mostText + 1)

// above is above all keys that may be.
var above = strings.Repeat("\xff", mostKey+1)

// textOf is so many bytes of all kinds, unlike those of another length.
func textOf(n int) string {
	all := make([]byte, n)
	word := uint32(n)*2654435761 + 1
	for at := range all {
		word = word*1664525 + 1013904223
		all[at] = byte(word >> 24)
	}
	return string(all)
}

// apart is how many pages a text of so many bytes takes beside its leaf.
func apart(n int) int {
	if n <= mostInline {
		return 0
	}
	return (n + part - 1) / part
}

// bench is a store on a disk of its own.
type bench struct {
	*testing.T
	d *disk.Disk
	s *Store
}

// made is a disk that may be.
func made(t *testing.T, sectors int, cuts ...api.Cut) *disk.Disk {
	t.Helper()
	d, e := disk.New(sectors, cuts)
	if e != api.OK {
		t.Fatalf("disk.New(%d) = %d", sectors, e)
	}
	return d
}

// opened is the store of a disk that can be opened.
func opened(t *testing.T, d *disk.Disk) *bench {
	t.Helper()
	s, e := Open(d)
	if e != api.OK || s == nil {
		t.Fatalf("Open = %v, %d", s, e)
	}
	return &bench{T: t, d: d, s: s}
}

// begun is a store of so many free pages.
func begun(t *testing.T, free int, cuts ...api.Cut) *bench {
	t.Helper()
	return opened(t, made(t, states+free, cuts...))
}

// refusesOpen holds that a disk isn't opened.
func refusesOpen(t *testing.T, d *disk.Disk, err api.Errno) {
	t.Helper()
	if s, e := Open(d); s != nil || e != err {
		t.Errorf("Open = %v, %d; not nil, %d", s, e, err)
	}
}

// until is a store behind some calls, whose power fails in acts behind these: the first cut counts from there on.
func until(t *testing.T, free int, do func(x *bench), first api.Cut, more ...api.Cut) *bench {
	t.Helper()
	dry := begun(t, free)
	do(dry)
	first.At += dry.d.Acts()
	x := begun(t, free, append([]api.Cut{first}, more...)...)
	do(x)
	return x
}

// fails lets the power fail, where it is to fail in the next act.
func (x *bench) fails() {
	x.Helper()
	if e := x.d.Flush(); e != api.ErrPower {
		x.Fatalf("Flush = %d", e)
	}
}

// again is the same disk, opened anew.
func (x *bench) again() *bench {
	x.Helper()
	return opened(x.T, x.d)
}

func (x *bench) puts(key, text string) {
	x.Helper()
	if e := x.s.Put(key, text); e != api.OK {
		x.Fatalf("Put(%q, %d bytes) = %d", key, len(text), e)
	}
}

func (x *bench) refusesPut(key, text string, err api.Errno) {
	x.Helper()
	if e := x.s.Put(key, text); e != err {
		x.Fatalf("Put(%q, %d bytes) = %d, not %d", key, len(text), e, err)
	}
}

func (x *bench) deletes(key string, was bool) {
	x.Helper()
	if is, e := x.s.Delete(key); is != was || e != api.OK {
		x.Fatalf("Delete(%q) = %v, %d; not %v", key, is, e, was)
	}
}

func (x *bench) refusesDelete(key string, err api.Errno) {
	x.Helper()
	if is, e := x.s.Delete(key); is || e != err {
		x.Fatalf("Delete(%q) = %v, %d; not false, %d", key, is, e, err)
	}
}

func (x *bench) commits() {
	x.Helper()
	if e := x.s.Commit(); e != api.OK {
		x.Fatalf("Commit = %d", e)
	}
}

func (x *bench) refusesCommit(err api.Errno) {
	x.Helper()
	if e := x.s.Commit(); e != err {
		x.Fatalf("Commit = %d, not %d", e, err)
	}
}

// has holds what a key has.
func (x *bench) has(key, text string) {
	x.Helper()
	if got, is, e := x.s.Get(key); got != text || !is || e != api.OK {
		x.Fatalf("Get(%q) = %d bytes, %v, %d; not the %d bytes", key, len(got), is, e, len(text))
	}
}

// lacks holds that a key has nothing.
func (x *bench) lacks(key string) {
	x.Helper()
	if got, is, e := x.s.Get(key); got != "" || is || e != api.OK {
		x.Fatalf("Get(%q) = %d bytes, %v, %d; not nothing", key, len(got), is, e)
	}
}

// refusesGet holds that keys can't be read.
func (x *bench) refusesGet(key string, err api.Errno) {
	x.Helper()
	if got, is, e := x.s.Get(key); got != "" || is || e != err {
		x.Fatalf("Get(%q) = %d bytes, %v, %d; not nothing, false, %d", key, len(got), is, e, err)
	}
}

// refusesKeys holds that keys from one on and below another one can't be read.
func (x *bench) refusesKeys(from, to string, most int, err api.Errno) {
	x.Helper()
	if keys, texts, e := x.s.Keys(from, to, most); keys != nil || texts != nil || e != err {
		x.Fatalf("Keys(%q, %q, %d) = %d, %d, %d; not none, none, %d", from, to, most, len(keys), len(texts), e, err)
	}
}

// all holds all keys and their texts.
func (x *bench) all(want map[string]string) {
	x.Helper()
	for key, text := range want {
		x.has(key, text)
	}
	x.keys("", above, math.MaxInt, want)
}

// keys holds the keys from one on and below another one, of all that there are.
func (x *bench) keys(from, to string, most int, all map[string]string) {
	x.Helper()
	var wantKeys, wantTexts []string
	for _, key := range slices.Sorted(maps.Keys(all)) {
		if from <= key && key < to && len(wantKeys) < most {
			wantKeys = append(wantKeys, key)
			wantTexts = append(wantTexts, all[key])
		}
	}
	keys, texts, e := x.s.Keys(from, to, most)
	if e != api.OK || !slices.Equal(keys, wantKeys) || !slices.Equal(texts, wantTexts) {
		x.Fatalf("Keys(%q, %q, %d) = %q, %d texts, %d; not %q", from, to, most, keys, len(texts), e, wantKeys)
	}
}

// told holds the generation, how many pages are free, and that there is no error.
func (x *bench) told(gen uint64, left int) {
	x.Helper()
	if x.s.Gen() != gen || x.s.Left() != left || x.s.Err() != api.OK {
		x.Fatalf("Gen = %d, Left = %d, Err = %d; not %d, %d, 0", x.s.Gen(), x.s.Left(), x.s.Err(), gen, left)
	}
}

// stuck holds that all is an error, whatever is asked, and that nobody asks the disk.
func (x *bench) stuck(err api.Errno) {
	x.Helper()
	acts, gen, left := x.d.Acts(), x.s.Gen(), x.s.Left()
	for _, key := range []string{"", "a", "b", "zz", strings.Repeat("k", mostKey), strings.Repeat("k", mostKey+1)} {
		x.refusesGet(key, err)
		x.refusesDelete(key, err)
		for _, n := range []int{0, 1, mostInline + 1, mostText, mostText + 1} {
			x.refusesPut(key, huge[:n], err)
		}
		for _, most := range []int{-1, 0, 1, 9} {
			x.refusesKeys(key, above, most, err)
			x.refusesKeys(key, "", most, err)
		}
	}
	x.refusesCommit(err)
	if x.s.Err() != err {
		x.Errorf("Err = %d, not %d", x.s.Err(), err)
	}
	if x.d.Acts() != acts || x.s.Gen() != gen || x.s.Left() != left {
		x.Errorf("%d acts, Gen %d and %d, Left %d and %d", x.d.Acts()-acts, gen, x.s.Gen(), left, x.s.Left())
	}
}

// sectors is all that a disk says; a torn sector says nothing.
func sectors(d *disk.Disk) []string {
	var all []string
	for n := range d.Sectors() {
		s, _ := d.Read(n)
		all = append(all, s)
	}
	return all
}

// pagesOf is the pages of a committed state, by the layers below alone.
func pagesOf(t *testing.T, d *disk.Disk) []int {
	t.Helper()
	var pages []int
	e := powered(d, func() (e api.Errno) { pages, e = walked(d); return })
	if e != api.OK {
		t.Fatalf("the pages can't be told: %d", e)
	}
	return pages
}

// walked is the same, or the error of a layer below.
func walked(d *disk.Disk) ([]int, api.Errno) {
	p, e := pager.Open(d)
	if e != api.OK {
		return nil, e
	}
	var texts []int
	nodes, e := cursor.Pages(btree.New(p, p.State().Root), func(v api.Val) api.Errno {
		if v.Page < 0 {
			return api.OK
		}
		pages, e := chain.Pages(p, v.Page, v.Len)
		texts = append(texts, pages...)
		return e
	})
	return append(nodes, texts...), e
}

// counted is how many these are.
func counted(t *testing.T, d *disk.Disk) int {
	t.Helper()
	return len(pagesOf(t, d))
}

// The chapter's example: Put, Commit, a cut, Open: the text is there.
func TestExample(t *testing.T) {
	for _, n := range lengths {
		x := until(t, 300, func(x *bench) {
			x.puts("a", textOf(n))
			x.commits()
		}, api.Cut{})
		x.fails()
		x.d.Up()
		x = x.again()
		x.all(map[string]string{"a": textOf(n)})
		x.told(2, 300-1-apart(n))
	}
}

// The limits that the chapters tell stand in api.
func TestLimits(t *testing.T) {
	if api.MostKey != mostKey || api.MostInline != mostInline || api.MostValue != mostText || api.ChainBytes != part || api.FirstPage != states {
		t.Error(api.MostKey, api.MostInline, api.MostValue, api.ChainBytes, api.FirstPage)
	}
}

// Promise 13.1: Open: a disk without a state is formatted, whatever else it says.
func TestOpenOfBlankDisks(t *testing.T) {
	junk := strings.Repeat("junk", 64)
	for name, says := range map[string]map[int]string{
		"noughts":             {},
		"junk":                {0: junk, 1: junk, 2: junk, 7: junk},
		"junk in one of them": {1: "x"},
	} {
		d := made(t, 10)
		for n, s := range says {
			d.Write(n, s)
		}
		d.Flush()
		x := opened(t, d)
		x.told(1, 8)
		x.all(nil)
		p, e := pager.Open(d)
		if e != api.OK || p.State() != (api.Super{Gen: 1, Root: -1}) {
			t.Errorf("%s: %v, %d", name, p.State(), e)
		}
		x = x.again() // that is what is committed: it isn't formatted again
		x.told(1, 8)
		x.puts("a", "1")
		x.commits()
		x.again().told(2, 7)
	}
}

// Promise 13.1: sectors of states that are torn say none.
func TestOpenOfTornStates(t *testing.T) {
	for _, fates := range [][]int{{api.FateTorn}, {api.FateLost, api.FateTorn}, {api.FateTorn, api.FateTorn}} {
		d := made(t, 10, api.Cut{At: 2, Fates: fates})
		d.Write(0, "x")
		d.Write(1, "x")
		if e := d.Flush(); e != api.ErrPower {
			t.Fatal(e)
		}
		d.Up()
		x := opened(t, d)
		x.told(1, 8)
		x.all(nil)
		x.puts("a", "1")
		x.commits()
		x.again().all(map[string]string{"a": "1"})
	}
}

// Promise 13.1: Open is what is committed; what is not is not there; all pages are marked; the disk is read alone, each page once.
func TestOpen(t *testing.T) {
	x := begun(t, 1000)
	want := map[string]string{}
	for at, n := range lengths {
		key := fmt.Sprint("key", at)
		want[key] = textOf(n)
		x.puts(key, textOf(n))
	}
	for at := range 200 {
		key := fmt.Sprint("more", at)
		want[key] = key
		x.puts(key, key)
	}
	x.commits()
	left := x.s.Left()
	pages := counted(t, x.d)
	x.puts("key1", "other")
	x.puts("new", textOf(500))
	x.deletes("key2", true)
	before := sectors(x.d)
	acts := x.d.Acts()
	y := x.again()
	if y.d.Acts() != acts+stateActs+pages {
		t.Errorf("%d acts, not %d", y.d.Acts()-acts, stateActs+pages)
	}
	y.told(2, left)
	if left != 1000-pages {
		t.Errorf("Left = %d, with %d pages of 1000", left, pages)
	}
	y.all(want)
	y.lacks("new")
	if !slices.Equal(sectors(x.d), before) {
		t.Error("Open wrote on the disk")
	}
	y.puts("later", textOf(300 * part)[:mostText]) // pages that are marked aren't taken
	y.commits()
	want["later"] = textOf(300 * part)[:mostText]
	y.all(want)
	y.again().all(want)
}

// Errors of the layers below: there is no room for states, or no power.
func TestOpenOfOtherDisks(t *testing.T) {
	refusesOpen(t, nil, api.ErrPower)
	refusesOpen(t, made(t, 0), api.ErrRange)
	refusesOpen(t, made(t, 1), api.ErrRange)
	d := made(t, 9, api.Cut{})
	d.Flush()
	refusesOpen(t, d, api.ErrPower)
	d.Up()
	opened(t, d).told(1, 7)
	opened(t, made(t, api.MostSectors)).told(1, api.MostSectors-states)
}

// Promise 13.1: power that fails in Open is told, at whichever act; then it can be opened again.
func TestPowerThatFailsInOpen(t *testing.T) {
	for at := range stateActs + formatActs + stateActs {
		for _, fate := range []int{api.FateLost, api.FateKept, api.FateTorn} {
			d := made(t, 9, api.Cut{At: at, Fates: []int{fate, fate}})
			refusesOpen(t, d, api.ErrPower)
			refusesOpen(t, d, api.ErrPower)
			d.Up()
			x := opened(t, d)
			x.told(1, 7)
			x.all(nil)
		}
	}
	const pages = 1 + 5 + 2
	const ahead = stateActs + formatActs + stateActs + pages + 3
	for at := range stateActs + pages {
		x := begun(t, 20, api.Cut{At: ahead + at})
		x.puts("a", textOf(1000))
		x.puts("b", textOf(300))
		x.commits()
		refusesOpen(t, x.d, api.ErrPower)
		x.d.Up()
		x = x.again()
		x.told(2, 20-pages)
		x.all(map[string]string{"a": textOf(1000), "b": textOf(300)})
	}
}

// Words: a text of at most MostInline bytes stands in its leaf, a longer one in a chain.
func TestWhereTextsStand(t *testing.T) {
	for _, n := range lengths {
		x := begun(t, 300)
		x.puts("a", textOf(n))
		x.told(1, 300-1-apart(n))
		x.commits()
		x.told(2, 300-1-apart(n))
		p, _ := pager.Open(x.d)
		v, is, e := btree.New(p, p.State().Root).Get("a")
		if !is || e != api.OK {
			t.Fatalf("%d bytes: Get = %v, %d", n, is, e)
		}
		if n <= mostInline {
			if v != (api.Val{Data: textOf(n), Page: -1}) {
				t.Errorf("%d bytes: %v", n, v)
			}
			continue
		}
		if v.Page < states || v.Data != "" || v.Len != n {
			t.Errorf("%d bytes: %v", n, v)
		}
		if got, e := chain.Get(p, v.Page, n); got != textOf(n) || e != api.OK {
			t.Errorf("%d bytes: the chain has %d, %d", n, len(got), e)
		}
	}
}

// Promise 13.1: a text becomes longer or shorter, of one that is new: its pages are free at once.
func TestTextsThatChange(t *testing.T) {
	for _, from := range lengths {
		for _, to := range lengths {
			x := begun(t, 600)
			x.puts("a", textOf(from))
			x.puts("a", textOf(to))
			x.all(map[string]string{"a": textOf(to)})
			x.told(1, 600-1-apart(to))
			x.deletes("a", true)
			x.all(nil)
			x.told(1, 600)
			x.deletes("a", false)
		}
	}
}

// Promise 13.1: the same of one that is committed: its pages are free with the next commit.
func TestCommittedTextsThatChange(t *testing.T) {
	for _, from := range lengths {
		for _, to := range lengths {
			x := begun(t, 600)
			x.puts("a", textOf(from))
			x.commits()
			x.puts("a", textOf(to))
			x.all(map[string]string{"a": textOf(to)})
			x.told(2, 600-1-apart(from)-1-apart(to))
			x.again().all(map[string]string{"a": textOf(from)})
			x.commits()
			x.told(3, 600-1-apart(to))
			x.all(map[string]string{"a": textOf(to)})
			x.again().all(map[string]string{"a": textOf(to)})
			x.deletes("a", true)
			x.told(3, 600-1-apart(to))
			x.lacks("a")
			x.commits()
			x.told(4, 600)
			x.again().all(nil)
		}
	}
}

// Promise 13.1: Keys: from one on, below another one, most at most; with texts of leaves and of chains.
func TestKeys(t *testing.T) {
	x := begun(t, 100)
	want := map[string]string{"": "none", "a": textOf(300), "b": "", "ba": textOf(49), "c": "3", "e": textOf(48), strings.Repeat("\xff", mostKey): "last"}
	for key, text := range want {
		x.puts(key, text)
	}
	froms := []string{"", "a", "aa", "b", "b\x00", "ba", "bz", "c", "d", "e", "f", "\xff", strings.Repeat("\xff", mostKey), above}
	for range 2 {
		for _, from := range froms {
			for _, to := range froms {
				for _, most := range []int{math.MinInt, -1, 0, 1, 2, 3, 6, 7, 8, math.MaxInt} {
					x.keys(from, to, most, want)
				}
			}
		}
		x.commits()
		x = x.again()
	}
}

// Promise 13.1: ErrInput of keys and texts that may not be: nothing is done, and all goes on.
func TestWhatMayNotBe(t *testing.T) {
	long := strings.Repeat("k", mostKey+1)
	for _, x := range []*bench{begun(t, 400), begun(t, 0)} { // it is told ahead of what the layers below tell
		left := x.s.Left()
		acts := x.d.Acts()
		for _, key := range []string{long, long + long, strings.Repeat("k", 1000)} {
			x.refusesPut(key, "", api.ErrInput)
			x.refusesPut(key, textOf(mostText+1), api.ErrInput)
			x.refusesDelete(key, api.ErrInput)
			x.lacks(key)
		}
		for _, n := range []int{mostText + 1, mostText + part, 1 << 20} {
			x.refusesPut("", textOf(n), api.ErrInput)
			x.refusesPut("a", textOf(n), api.ErrInput)
		}
		x.told(1, left)
		x.all(nil)
		if x.d.Acts() != acts {
			t.Errorf("%d acts", x.d.Acts()-acts)
		}
	}
	x := begun(t, 400)
	x.puts("a", "1")
	x.refusesPut("a", textOf(mostText+1), api.ErrInput)
	x.refusesPut(long, "2", api.ErrInput)
	x.refusesDelete(long, api.ErrInput)
	x.told(1, 399)
	x.all(map[string]string{"a": "1"})
	x.puts(long[1:], textOf(mostText))
	x.puts("", "empty")
	x.commits()
	x.told(2, 399-apart(mostText))
	want := map[string]string{"a": "1", long[1:]: textOf(mostText), "": "empty"}
	x.again().all(want)
	x.refusesPut(long, "2", api.ErrInput)
	x.s.Undo()
	x.all(want)
	x.deletes(long[1:], true)
	x.deletes("", true)
	x.all(map[string]string{"a": "1"})
}

// Promise 13.1: Commit and Gen: each commit is a generation, be there something to do or not.
func TestCommitAndGen(t *testing.T) {
	x := begun(t, 9)
	for gen := range uint64(20) {
		x.told(gen+1, 9-min(int(gen), 1))
		x.puts("a", fmt.Sprint(gen))
		if x.s.Gen() != gen+1 {
			t.Fatalf("Gen = %d ahead of Commit", x.s.Gen())
		}
		x.commits()
		x.told(gen+2, 8)
		x.again().told(gen+2, 8)
		x.again().all(map[string]string{"a": fmt.Sprint(gen)})
	}
	x.commits()
	x.told(22, 8)
	x.again().all(map[string]string{"a": "19"})
}

// Promise 13.1: Undo is as it was committed, and what it forgets gives its pages back.
func TestUndo(t *testing.T) {
	x := begun(t, 600)
	x.puts("a", textOf(1000))
	x.puts("b", "2")
	x.s.Undo() // nothing was ever committed
	x.told(1, 600)
	x.all(nil)
	want := map[string]string{"a": textOf(1000), "b": "2", "c": textOf(235)}
	for key, text := range want {
		x.puts(key, text)
	}
	x.commits()
	left := 600 - 1 - 5 - 2
	x.told(2, left)
	for _, do := range []func(){
		func() {},
		func() { x.puts("a", "1") },
		func() { x.puts("a", textOf(mostText)) },
		func() { x.puts("d", textOf(mostText)) },
		func() { x.deletes("a", true) },
		func() { x.deletes("a", true); x.puts("a", textOf(300)); x.puts("a", ""); x.deletes("b", true) },
		func() { x.deletes("a", true); x.deletes("b", true); x.deletes("c", true) },
	} {
		do()
		acts := x.d.Acts()
		x.s.Undo()
		if x.d.Acts() != acts {
			t.Errorf("Undo: %d acts", x.d.Acts()-acts)
		}
		x.told(2, left)
		x.all(want)
		x.lacks("d")
		x.s.Undo()
		x.told(2, left)
	}
	x.again().all(want)
	x.commits()
	x.told(3, left)
	x.again().all(want)
}

// Promise 13.1: without power Undo is nothing.
func TestUndoWithoutPower(t *testing.T) {
	x := until(t, 9, func(x *bench) {
		x.puts("a", "1")
		x.commits()
		x.puts("b", textOf(300))
	}, api.Cut{})
	x.told(2, 5)
	x.fails()
	x.s.Undo()
	x.told(2, 5)
	x.d.Up()
	x.all(map[string]string{"a": "1", "b": textOf(300)})
	x.s.Undo()
	x.told(2, 8)
	x.all(map[string]string{"a": "1"})
}

// Promise 13.1: where there is no room, that is told, and behind it all is that, until Undo.
func TestNoRoom(t *testing.T) {
	x := begun(t, 0)
	x.told(1, 0)
	x.all(nil)
	x.deletes("a", false)
	x.commits() // there is nothing that needs a page
	x.told(2, 0)
	x.refusesPut("a", "", api.ErrFull)
	x.stuck(api.ErrFull)
	x.s.Undo()
	x.told(2, 0)
	x.all(nil)
	for _, n := range lengths {
		need := 1 + apart(n)
		for _, free := range []int{0, need / 2, need - 1} {
			x := begun(t, free)
			x.refusesPut("a", textOf(n), api.ErrFull)
			x.stuck(api.ErrFull)
			x.s.Undo()
			x.told(1, free)
			x.all(nil)
			if free > 0 {
				x.puts("a", "1")
				x.commits()
				x.told(2, free-1)
			}
		}
		x := begun(t, need)
		x.puts("a", textOf(n))
		x.told(1, 0)
		x.commits()
		x.told(2, 0)
		x.again().all(map[string]string{"a": textOf(n)})
	}
}

// A text that is new gives its pages to the one that comes in its place.
func TestRoomOfWhatIsNew(t *testing.T) {
	x := begun(t, 7)
	x.puts("a", textOf(5*part))
	x.told(1, 1)
	x.puts("a", textOf(5*part-1))
	x.told(1, 1)
	x.has("a", textOf(5*part-1))
	x.commits()
	x.again().all(map[string]string{"a": textOf(5*part - 1)})
	x.refusesPut("a", textOf(mostInline+1), api.ErrFull) // of what is committed nothing is free until the next commit
	x.s.Undo()
	x.puts("a", "short")
	x.commits()
	x.told(3, 6)
}

// Promise 13.1: behind an error of Delete all is that error, until Undo.
func TestDeleteWithoutRoom(t *testing.T) {
	x := begun(t, 2)
	x.puts("a", "1")
	x.puts("b", "2")
	x.commits()
	x.puts("c", "3")
	x.told(2, 0)
	x.deletes("d", false) // what is not there needs no page
	x.told(2, 0)
	x.refusesDelete("a", api.ErrFull)
	x.stuck(api.ErrFull)
	x.s.Undo()
	x.told(2, 1)
	x.all(map[string]string{"a": "1", "b": "2"})
	x = begun(t, 1)
	x.puts("a", "1")
	x.commits()
	x.told(2, 0)
	x.deletes("a", true) // nor does a tree that is empty then
	x.commits()
	x.told(3, 1)
}

// two is a committed leaf with a and b, whose text has two pages.
func two(x *bench) {
	x.Helper()
	x.puts("a", "1")
	x.puts("b", textOf(300))
	x.commits()
}

// Promise 13.1: behind an error of Put or Delete all is that error, until Undo with power.
func TestPowerThatFailsInPutAndDelete(t *testing.T) {
	want := map[string]string{"a": "1", "b": textOf(300)}
	for name, do := range map[string]func(x *bench){
		"put a":    func(x *bench) { x.refusesPut("a", "2", api.ErrPower) },
		"put c":    func(x *bench) { x.refusesPut("c", textOf(500), api.ErrPower) },
		"delete a": func(x *bench) { x.refusesDelete("a", api.ErrPower) },
		"delete c": func(x *bench) { x.refusesDelete("c", api.ErrPower) },
	} {
		t.Log(name)
		x := until(t, 9, two, api.Cut{}) // there is no power at all
		x.fails()
		do(x)
		x.stuck(api.ErrPower)
		x.s.Undo()
		x.stuck(api.ErrPower)
		x.d.Up()
		x.stuck(api.ErrPower)
		x.s.Undo()
		x.told(2, 6)
		x.all(want)
		x.again().all(want)
	}
	for at := range 3 { // it fails in reading the leaf, or a page of what b has
		for _, do := range []func(x *bench){
			func(x *bench) { x.refusesPut("b", "2", api.ErrPower) },
			func(x *bench) { x.refusesPut("b", textOf(500), api.ErrPower) },
			func(x *bench) { x.refusesDelete("b", api.ErrPower) },
		} {
			x := until(t, 9, two, api.Cut{At: at})
			do(x)
			x.stuck(api.ErrPower)
			x.s.Undo()
			x.stuck(api.ErrPower)
			x.d.Up()
			x.stuck(api.ErrPower)
			x.s.Undo()
			x.told(2, 6)
			x.all(want)
			x.deletes("b", true)
			x.commits()
			x.told(3, 8)
			x.again().all(map[string]string{"a": "1"})
		}
	}
}

// An error of Get or Keys is told, and is no error behind which nothing is done: what was put is still there.
func TestPowerThatFailsInGetAndKeys(t *testing.T) {
	for at := range 2 { // the leaf is a new one, in memory; b's text has two pages
		for _, do := range []func(x *bench){
			func(x *bench) { x.refusesGet("b", api.ErrPower) },
			func(x *bench) { x.refusesKeys("", above, 9, api.ErrPower) },
		} {
			x := until(t, 9, func(x *bench) {
				two(x)
				x.puts("c", "3")
			}, api.Cut{At: at})
			do(x)
			x.told(2, 5)
			x.refusesGet("b", api.ErrPower)
			x.has("a", "1")
			x.d.Up()
			x.all(map[string]string{"a": "1", "b": textOf(300), "c": "3"})
			x.puts("d", "4")
			x.commits()
			x.again().all(map[string]string{"a": "1", "b": textOf(300), "c": "3", "d": "4"})
		}
	}
	for at := range 3 { // with the leaf
		x := until(t, 9, two, api.Cut{At: at})
		x.refusesKeys("", above, 9, api.ErrPower)
		x.told(2, 6)
		x.refusesGet("a", api.ErrPower)
		x.d.Up()
		x.all(map[string]string{"a": "1", "b": textOf(300)})
	}
}

// Errors of the layers below: pages that are torn, or become others, when the store is open.
func TestPagesThatBreak(t *testing.T) {
	for _, c := range []struct {
		fate int
		err  api.Errno
	}{{api.FateTorn, api.ErrTorn}, {api.FateKept, api.ErrPage}} {
		for at := range 3 {
			x := until(t, 9, two, api.Cut{At: 1 + stateActs + 3, Fates: []int{c.fate}})
			x.d.Write(pagesOf(t, x.d)[at], "junk")
			x.fails()
			x.d.Up()
			x.refusesGet("b", c.err)
			x.refusesKeys("", above, 9, c.err)
			x.told(2, 6)
			x.refusesPut("b", "2", c.err)
			x.stuck(c.err)
			x.s.Undo()
			x.told(2, 6)
			x.refusesGet("b", c.err)
			x.refusesDelete("b", c.err)
			x.stuck(c.err)
			x.s.Undo()
			x.told(2, 6)
			before := sectors(x.d)
			refusesOpen(t, x.d, c.err)
			if !slices.Equal(sectors(x.d), before) {
				t.Error("Open wrote on the disk")
			}
		}
	}
}

// Behind the last generation there is none: that is told, and what was committed is there.
func TestLastGeneration(t *testing.T) {
	const last = 1<<62 - 1
	d := made(t, 9)
	d.Write(1, stateSector(last, -1))
	d.Flush()
	x := opened(t, d)
	x.told(last, 7)
	x.puts("a", "1")
	x.refusesCommit(api.ErrInput)
	x.stuck(api.ErrInput)
	x.s.Undo()
	x.told(last, 7)
	x.all(nil)
}

// A nil store is ErrInput, 0; one that nobody opened is no other.
func TestNil(t *testing.T) {
	x := &bench{T: t}
	for range 2 {
		if x.s.Gen() != 0 || x.s.Left() != 0 || x.s.Err() != api.ErrInput {
			t.Error(x.s.Gen(), x.s.Left(), x.s.Err())
		}
		x.stuck(api.ErrInput)
		x.s.Undo()
	}
	x.s = &Store{}
	if x.s.Gen() != 0 || x.s.Left() != 0 {
		t.Error(x.s.Gen(), x.s.Left())
	}
	x.stuck(api.ErrInput)
	x.s.Undo()
	x.stuck(api.ErrInput)
}

// R2: what is answered is the caller's own.
func TestOwn(t *testing.T) {
	x := begun(t, 20)
	want := map[string]string{"a": "1", "b": textOf(300)}
	x.puts("a", "1")
	x.puts("b", textOf(300))
	keys, texts, _ := x.s.Keys("", above, 9)
	clear(keys)
	clear(texts)
	x.all(want)
	got, _, _ := x.s.Get("b")
	x.puts("b", "2")
	x.puts("c", strings.Repeat("y", 300))
	if got != textOf(300) {
		t.Error("the text that was got is another one now")
	}
}

// R4: the same calls in the same order let the same bytes be on the disk.
func TestSame(t *testing.T) {
	play := func() []string {
		x := begun(t, 200)
		r := rand.New(rand.NewSource(5))
		for at := range 300 {
			key := fmt.Sprint(r.Intn(60))
			switch {
			case r.Intn(3) == 0:
				x.s.Delete(key)
			default:
				x.s.Put(key, textOf(r.Intn(120)))
			}
			if at%20 == 19 {
				x.s.Commit()
			}
			x.s.Undo() // if there was no room
		}
		return sectors(x.d)
	}
	if !slices.Equal(play(), play()) {
		t.Error("not the same")
	}
}

// Promise 13.1, at random: keys and texts as a map has them; all pages are given back.
func TestWalks(t *testing.T) {
	for seed := range int64(40) {
		r := rand.New(rand.NewSource(seed))
		x := begun(t, 20+r.Intn(200))
		free := x.s.Left()
		now, then := map[string]string{}, map[string]string{}
		for range 300 {
			key := strings.Repeat(fmt.Sprint(r.Intn(40)), 1+r.Intn(20))
			switch r.Intn(12) {
			case 0, 1, 2, 3, 4, 5:
				text := textOf(r.Intn(r.Intn(1000) + 1))
				if e := x.s.Put(key, text); e == api.OK {
					now[key] = text
				} else if e == api.ErrFull {
					x.stuck(api.ErrFull)
					x.s.Undo()
					now = maps.Clone(then)
				} else {
					t.Fatalf("Put = %d", e)
				}
			case 6, 7, 8:
				_, was := now[key]
				if is, e := x.s.Delete(key); e == api.OK && is == was {
					delete(now, key)
				} else if e == api.ErrFull && was && !is {
					x.stuck(api.ErrFull)
					x.s.Undo()
					now = maps.Clone(then)
				} else {
					t.Fatalf("Delete = %v, %d", is, e)
				}
			case 9:
				gen := x.s.Gen()
				x.commits()
				then = maps.Clone(now)
				x.told(gen+1, free-counted(t, x.d))
			case 10:
				x.s.Undo()
				now = maps.Clone(then)
				x.told(x.s.Gen(), free-counted(t, x.d))
			case 11:
				gen := x.s.Gen()
				x = x.again()
				now = maps.Clone(then)
				x.told(gen, free-counted(t, x.d))
			}
			x.all(now)
			x.keys(key, fmt.Sprint(r.Intn(40)), r.Intn(9), now)
		}
		x.s.Undo()
		for key := range then {
			if _, e := x.s.Delete(key); e != api.OK { // a full disk gives pages back by commits alone
				break
			}
			x.s.Commit()
		}
		if keys, _, e := x.s.Keys("", above, 9); e == api.OK && len(keys) == 0 && x.s.Left() != free {
			t.Errorf("%d are free, not %d", x.s.Left(), free)
		}
	}
}
