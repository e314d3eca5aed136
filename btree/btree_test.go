package btree

import (
	"fmt"
	"maps"
	"math"
	"math/rand"
	"slices"
	"strings"
	"testing"

	"keyway/api"
	"keyway/disk"
	"keyway/node"
	"keyway/pager"
)

// data is what stands in a leaf itself.
func data(s string) api.Val { return api.Val{Data: s, Page: -1} }

// long is so many bytes that begin in a page.
func long(page, many int) api.Val { return api.Val{Page: page, Len: many} }

// nothing is what a key has that is not there.
func nothing() api.Val { return api.Val{Page: -1} }

// of is what a key of a map has, as a tree tells it.
func of(m map[string]api.Val, key string) (api.Val, bool) {
	if v, is := m[key]; is {
		return v, true
	}
	return nothing(), false
}

// bench is a tree on a disk of its own, and what is known of its pages.
type bench struct {
	*testing.T
	d      *disk.Disk
	p      *pager.Pager
	b      *Tree
	kept   map[int]bool // pages of the tree that is committed
	others int          // new pages that are not the tree's
}

// begun is an empty tree on a disk of so many sectors.
func begun(t *testing.T, sectors int, cuts ...api.Cut) *bench {
	t.Helper()
	d, e := disk.New(sectors, cuts)
	if e != api.OK {
		t.Fatalf("disk.New(%d) = %d", sectors, e)
	}
	if e := pager.Format(d); e != api.OK {
		t.Fatalf("Format() = %d", e)
	}
	p, e := pager.Open(d)
	if e != api.OK {
		t.Fatalf("Open() = %d", e)
	}
	return &bench{T: t, d: d, p: p, b: New(p, -1), kept: map[int]bool{}}
}

// puts holds what a key had when it is given something.
func (x *bench) puts(key string, v, had api.Val, is bool) {
	x.Helper()
	if got, was, e := x.b.Put(key, v); e != api.OK || got != had || was != is {
		x.Fatalf("Put(%q, %v) = %v, %v, %d; not %v, %v", key, v, got, was, e, had, is)
	}
}

// adds gives something to a key that has nothing.
func (x *bench) adds(key string, v api.Val) {
	x.Helper()
	x.puts(key, v, nothing(), false)
}

// deletes holds what a key had when it is taken away.
func (x *bench) deletes(key string, had api.Val, is bool) {
	x.Helper()
	if got, was, e := x.b.Delete(key); e != api.OK || got != had || was != is {
		x.Fatalf("Delete(%q) = %v, %v, %d; not %v, %v", key, got, was, e, had, is)
	}
}

// has holds what a key has.
func (x *bench) has(key string, v api.Val, is bool) {
	x.Helper()
	if got, was, e := x.b.Get(key); e != api.OK || got != v || was != is {
		x.Fatalf("Get(%q) = %v, %v, %d; not %v, %v", key, got, was, e, v, is)
	}
}

// refuses holds that a call answers an error, and nothing beside it.
func refuses(t *testing.T, name string, v api.Val, is bool, e, err api.Errno) {
	t.Helper()
	if e != err || is || v != (api.Val{}) {
		t.Errorf("%s = %v, %v, %d; not nothing, %d", name, v, is, e, err)
	}
}

func (x *bench) refusesGet(key string, err api.Errno) {
	x.Helper()
	v, is, e := x.b.Get(key)
	refuses(x.T, fmt.Sprintf("Get(%q)", key), v, is, e, err)
}

func (x *bench) refusesPut(key string, v api.Val, err api.Errno) {
	x.Helper()
	had, is, e := x.b.Put(key, v)
	refuses(x.T, fmt.Sprintf("Put(%q, %v)", key, v), had, is, e, err)
}

func (x *bench) refusesDelete(key string, err api.Errno) {
	x.Helper()
	had, is, e := x.b.Delete(key)
	refuses(x.T, fmt.Sprintf("Delete(%q)", key), had, is, e, err)
}

func (x *bench) refusesNode(n int, err api.Errno) {
	x.Helper()
	got, e := x.b.Node(n)
	if e != err || got.Leaf || got.Keys != nil || got.Vals != nil || got.Kids != nil {
		x.Errorf("Node(%d) = %v, %d; not nothing, %d", n, got, e, err)
	}
}

// commits lets the tree be there for good.
func (x *bench) commits() {
	x.Helper()
	kept := x.look().pages
	if e := x.p.Commit(x.b.Root()); e != api.OK {
		x.Fatalf("Commit() = %d", e)
	}
	x.kept, x.others = map[int]bool{}, 0
	for n := range kept {
		x.kept[n] = true
	}
}

// undoes takes back all that is not committed.
func (x *bench) undoes() {
	x.p.Undo()
	x.b, x.others = New(x.p, x.p.State().Root), 0
}

// reopens begins anew with what is committed.
func (x *bench) reopens() {
	x.Helper()
	p, e := pager.Open(x.d)
	if e != api.OK {
		x.Fatalf("Open() = %d", e)
	}
	for n := range x.kept {
		if !p.Mark(n) {
			x.Fatalf("Mark(%d) = false", n)
		}
	}
	x.p, x.b, x.others = p, New(p, p.State().Root), 0
}

// picture is a tree as its pages say it.
type picture struct {
	root  int
	deep  int
	pages map[int]api.Node
	keys  []string
	vals  map[string]api.Val
	low   int // how many nodes, beside the first one, are Low
}

// look is a tree's picture; it holds all that the section Words says of a tree, and that no other pages are used.
func (x *bench) look() picture {
	x.Helper()
	pic := picture{root: x.b.Root(), pages: map[int]api.Node{}, vals: map[string]api.Val{}}
	if pic.root != -1 {
		x.lookAt(&pic, pic.root, 1, "", "")
	}
	if !slices.IsSorted(pic.keys) || len(pic.vals) != len(pic.keys) {
		x.Fatalf("keys do not rise: %q", pic.keys)
	}
	used := maps.Clone(x.kept)
	for n := range pic.pages {
		used[n] = true
	}
	if left := x.d.Sectors() - api.FirstPage - len(used) - x.others; x.p.Left() != left {
		x.Fatalf("%d pages are free, not %d", x.p.Left(), left)
	}
	return pic
}

// lookAt looks at a node and those below it, of keys from one on and below another one (nothing: whatever they are).
func (x *bench) lookAt(pic *picture, n, depth int, from, below string) {
	x.Helper()
	p, e := x.p.Read(n, api.PageLeaf, api.PageInner)
	if e != api.OK {
		x.Fatalf("page %d: %d", n, e)
	}
	here, e := node.Get(p.Data, p.Kind == api.PageLeaf)
	if e != api.OK {
		x.Fatalf("page %d is no node: %d", n, e)
	}
	if _, twice := pic.pages[n]; twice {
		x.Fatalf("page %d is used twice", n)
	}
	if len(here.Keys) == 0 {
		x.Fatalf("page %d is an empty leaf, or has one kid alone: %v", n, here)
	}
	if len(p.Data) < 79 && n != pic.root {
		pic.low++
	}
	pic.pages[n] = here
	for _, k := range here.Keys {
		if k < from || below != "" && k >= below {
			x.Fatalf("page %d has %q, not of %q to %q", n, k, from, below)
		}
	}
	if !here.Leaf {
		bounds := slices.Concat([]string{from}, here.Keys, []string{below})
		for at, kid := range here.Kids {
			x.lookAt(pic, kid, depth+1, bounds[at], bounds[at+1])
		}
		return
	}
	if pic.deep != 0 && pic.deep != depth {
		x.Fatalf("leaf %d is at depth %d, another one at %d", n, depth, pic.deep)
	}
	pic.deep = depth
	for at, k := range here.Keys {
		pic.keys = append(pic.keys, k)
		pic.vals[k] = here.Vals[at]
	}
}

// says holds that a tree has just the keys of a map, with what they have, by its pages.
func (x *bench) says(want map[string]api.Val) picture {
	x.Helper()
	pic := x.look()
	if !maps.Equal(pic.vals, want) {
		x.Fatalf("the tree has %v, not %v", pic.vals, want)
	}
	if pic.root == -1 && len(want) > 0 || pic.root != -1 && len(want) == 0 {
		x.Fatalf("the first node of %d keys is in page %d", len(want), pic.root)
	}
	return pic
}

// same tells whether two pictures are of one tree in the same pages.
func same(a, b picture) bool {
	return a.root == b.root && maps.EqualFunc(a.pages, b.pages, sameNode)
}

func sameNode(a, b api.Node) bool {
	return a.Leaf == b.Leaf && slices.Equal(a.Keys, b.Keys) && slices.Equal(a.Vals, b.Vals) && slices.Equal(a.Kids, b.Kids)
}

// wayOf is the pages to the leaf of a key, and those beside them.
func (pic picture) wayOf(key string) (way []int, beside map[int]bool) {
	beside = map[int]bool{}
	for n := pic.root; n != -1; {
		way = append(way, n)
		here := pic.pages[n]
		if here.Leaf {
			break
		}
		at := 0
		for at < len(here.Keys) && key >= here.Keys[at] {
			at++
		}
		if at > 0 {
			beside[here.Kids[at-1]] = true
		} else {
			beside[here.Kids[1]] = true
		}
		n = here.Kids[at]
	}
	return way, beside
}

// moved holds that what a key's change touched is in new pages, and nothing else.
func (x *bench) moved(was, is picture, key string) {
	x.Helper()
	way, beside := was.wayOf(key)
	for _, n := range way {
		if _, still := is.pages[n]; still {
			x.Fatalf("%q: page %d changed, and is there still", key, n)
		}
	}
	for n, had := range was.pages {
		now, still := is.pages[n]
		if !still && !slices.Contains(way, n) && !beside[n] {
			x.Fatalf("%q: page %d did not change, and is gone", key, n)
		}
		if still && !sameNode(had, now) {
			x.Fatalf("%q: page %d says another node", key, n)
		}
	}
}

// Promise 10.1, New and Root.
func TestNewAndRoot(t *testing.T) {
	x := begun(t, 20)
	for _, root := range []int{-1, 0, 2, 7, api.MostSectors - 1} {
		if got := New(x.p, root).Root(); got != root {
			t.Errorf("New(p, %d).Root() = %d", root, got)
		}
	}
	if x.p.Left() != 18 {
		t.Errorf("%d pages are free", x.p.Left())
	}
	x.adds("a", data("1"))
	again := New(x.p, x.b.Root())
	if v, is, e := again.Get("a"); v != data("1") || !is || e != api.OK {
		t.Errorf("Get = %v, %v, %d", v, is, e)
	}
	if _, _, e := again.Delete("a"); e != api.OK || again.Root() != -1 {
		t.Errorf("Delete = %d, Root = %d", e, again.Root())
	}
}

// Promise 10.1, Node: of leaves, of inner nodes, and of what is neither.
func TestNode(t *testing.T) {
	x := begun(t, 20)
	leaf := api.Node{Leaf: true, Keys: []string{"a", "b"}, Vals: []api.Val{data("1"), long(5, 49)}}
	inner := api.Node{Keys: []string{"k"}, Kids: []int{7, 9}}
	bare := api.Node{Kids: []int{3}}
	for _, n := range []api.Node{leaf, inner, bare, {Leaf: true}} {
		at := x.page(n)
		for range 2 {
			got, e := x.b.Node(at)
			if e != api.OK || !sameNode(got, n) {
				t.Errorf("Node(%d) = %v, %d; not %v", at, got, e, n)
			}
			for i := range got.Keys { // what is done to an answer changes nothing
				got.Keys[i] = "x"
			}
			for i := range got.Kids {
				got.Kids[i] = 8
			}
		}
	}
	for _, c := range []struct {
		kind int
		says string
	}{
		{api.PageChain, node.Put(leaf)}, {api.PageSuper, node.Put(leaf)},
		{api.PageChain, node.Put(inner)}, {api.PageSuper, node.Put(inner)},
		{api.PageLeaf, ""}, {api.PageLeaf, "\x01"}, {api.PageLeaf, node.Put(leaf) + "x"}, {api.PageLeaf, node.Put(inner)},
		{api.PageLeaf, "\x02\x01b\x00\x00\x01a\x00\x00"}, {api.PageLeaf, "\x01\x01a\x01\x05\x30"}, {api.PageLeaf, "\x01\x01a\x05"},
		{api.PageInner, ""}, {api.PageInner, "\x00"}, {api.PageInner, node.Put(leaf)}, {api.PageInner, "\x02\x03\x01b\x04\x01b\x05"},
	} {
		at, e := x.p.Add(c.kind, c.says)
		if e != api.OK {
			t.Fatalf("Add = %d", e)
		}
		x.refusesNode(at, api.ErrPage)
		x.p.Drop(at)
	}
	x.refusesNode(19, api.ErrPage) // noughts
	x.refusesNode(0, api.ErrPage)
	x.refusesNode(1, api.ErrPage)
	for _, n := range []int{-1, 20, math.MinInt, math.MaxInt} {
		x.refusesNode(n, api.ErrRange)
	}
}

// page puts a node in a new page.
func (x *bench) page(n api.Node) int {
	x.Helper()
	kind := api.PageInner
	if n.Leaf {
		kind = api.PageLeaf
	}
	at, e := x.p.Add(kind, node.Put(n))
	if e != api.OK {
		x.Fatalf("Add = %d", e)
	}
	return at
}

// Promise 10.1, Get, Put and Delete: of keys that are there, and of such that are not.
func TestGetPutDelete(t *testing.T) {
	x := begun(t, 50)
	x.has("a", nothing(), false)
	x.deletes("a", nothing(), false)
	x.adds("b", data("1"))
	x.has("b", data("1"), true)
	x.has("a", nothing(), false)
	x.has("c", nothing(), false)
	x.puts("b", data(""), data("1"), true)
	x.puts("b", long(7, 300), data(""), true)
	x.has("b", long(7, 300), true)
	x.puts("b", data("2"), long(7, 300), true)
	x.puts("b", data("2"), data("2"), true)
	x.adds("", data("nothing"))
	x.has("", data("nothing"), true)
	x.deletes("c", nothing(), false)
	x.deletes("b", data("2"), true)
	x.deletes("b", nothing(), false)
	x.has("b", nothing(), false)
	x.says(map[string]api.Val{"": data("nothing")})
	x.deletes("", data("nothing"), true)
	x.has("", nothing(), false)
	x.says(nil)
	x.adds("b", long(0, 49))
	x.deletes("b", long(0, 49), true)
	x.says(nil)
}

// Promises 9.1 and 10.1: a key that has nothing has Page -1, in an empty tree, in one of a leaf, in one of inner nodes, and in one that became empty; with an error there is the zero value instead.
func TestNothing(t *testing.T) {
	x, full := begun(t, 300), data(strings.Repeat("d", api.MostInline))
	absent := func() {
		t.Helper()
		for _, key := range []string{"", "a", "k010-", "z", strings.Repeat("k", api.MostKey)} {
			x.has(key, nothing(), false)
			x.deletes(key, nothing(), false)
			x.puts(key, data("1"), nothing(), false)
			x.deletes(key, data("1"), true)
			x.deletes(key, nothing(), false)
			x.has(key, nothing(), false)
		}
		x.has(strings.Repeat("k", api.MostKey+1), nothing(), false)
	}
	absent()
	for n := range 150 {
		x.puts(fmt.Sprintf("k%03d", n), full, nothing(), false)
		if n == 0 {
			absent()
		}
	}
	if pic := x.look(); pic.deep < 3 {
		t.Fatalf("depth %d", pic.deep)
	}
	absent()
	for n := range 150 {
		x.deletes(fmt.Sprintf("k%03d", n), full, true)
	}
	x.says(nil)
	absent()
	x.takesAllBut(0)
	x.refusesPut("a", data("1"), api.ErrFull)
	x.has("a", nothing(), false)
	x.deletes("a", nothing(), false)
}

// Promise 10.1: what is not there changes no page, and needs none.
func TestDeleteOfNothing(t *testing.T) {
	x := begun(t, 100)
	want := map[string]api.Val{}
	for n := range 60 {
		k := fmt.Sprintf("k%03d", 2*n)
		want[k] = data(k)
		x.adds(k, want[k])
	}
	was := x.says(want)
	if was.deep < 2 {
		t.Fatalf("depth %d", was.deep)
	}
	x.takesAllBut(0)
	for n := range 61 {
		x.deletes(fmt.Sprintf("k%03d", 2*n-1), nothing(), false)
	}
	if !same(was, x.says(want)) {
		t.Error("pages changed")
	}
}

// takesAllBut takes free pages, as one does that puts something else there, until so many are left.
func (x *bench) takesAllBut(left int) {
	x.Helper()
	for x.p.Left() > left {
		if _, e := x.p.Add(api.PageChain, "other"); e != api.OK {
			x.Fatalf("Add = %d", e)
		}
		x.others++
	}
}

// The chapter's example: Put, Delete of a key that was not there: the same keys.
func TestExample(t *testing.T) {
	x := begun(t, 300)
	want := map[string]api.Val{}
	for n := range 200 {
		k := fmt.Sprintf("%03d", n)
		x.adds(k+"-", data("x"))
		x.deletes(k+"-", data("x"), true)
		x.says(want)
		want[k] = data(k)
		x.adds(k, want[k])
	}
	for n := range 200 {
		k := fmt.Sprintf("%03d", n) + strings.Repeat("x", n%60)
		if _, is := want[k]; is {
			continue
		}
		x.adds(k, data(strings.Repeat("d", n%49)))
		x.deletes(k, data(strings.Repeat("d", n%49)), true)
		x.says(want)
	}
}

// Promise 10.1, ErrInput: keys and values that may be, and those that may not be.
func TestInput(t *testing.T) {
	most, full := strings.Repeat("k", api.MostKey), strings.Repeat("d", api.MostInline)
	x := begun(t, 50)
	right := []api.Val{
		data(""), data("x"), data(full), long(0, api.MostInline+1), long(2, 300),
		long(api.MostSectors-1, api.MostInline+1), long(7, api.MostValue),
	}
	for _, key := range []string{"", "a", most, "\x00", "\xff\xfe"} {
		had, is := nothing(), false
		for _, v := range right {
			x.puts(key, v, had, is)
			x.has(key, v, true)
			had, is = v, true
		}
	}
	was := x.look()
	wrong := []api.Val{
		{}, data(full + "d"), {Data: "x"}, {Data: "x", Page: -2}, {Page: -2}, {Page: math.MinInt, Len: 100},
		long(5, 0), long(5, 1), long(5, api.MostInline), long(5, -1), long(5, math.MinInt), long(5, api.MostValue+1), long(5, math.MaxInt),
		long(api.MostSectors, 100), long(math.MaxInt, 100), long(-2, 100), long(-1, 100), long(-1, 1),
		{Data: "x", Page: 5, Len: 100}, {Data: "x", Page: -1, Len: 1},
	}
	for _, v := range wrong {
		x.refusesPut("a", v, api.ErrInput)
		x.refusesPut("z", v, api.ErrInput)
		x.refusesPut(most+"k", v, api.ErrInput)
	}
	for _, key := range []string{most + "k", strings.Repeat("k", 300), strings.Repeat("k", 100000)} {
		x.refusesPut(key, data("x"), api.ErrInput)
		x.refusesDelete(key, api.ErrInput)
		x.has(key, nothing(), false)
	}
	if !same(was, x.look()) {
		t.Error("the tree changed")
	}
	x.takesAllBut(0) // what may not be is told ahead of what the pager tells
	x.refusesPut("a", data(full+"d"), api.ErrInput)
	x.refusesPut("a", data(full), api.ErrFull)
}

// Promise 10.1: ErrInput is told ahead of what a page says.
func TestInputFirst(t *testing.T) {
	x := begun(t, 20)
	x.b = New(x.p, 9)
	x.refusesPut("a", data("x"), api.ErrPage)
	x.refusesPut("a", long(5, 5), api.ErrInput)
	x.refusesPut(strings.Repeat("k", 65), data("x"), api.ErrInput)
	x.refusesDelete("a", api.ErrPage)
	x.refusesDelete(strings.Repeat("k", 65), api.ErrInput)
	x.refusesGet("a", api.ErrPage)
	x.b = New(x.p, 400)
	x.refusesPut("a", data("x"), api.ErrRange)
	x.refusesDelete("a", api.ErrRange)
	x.refusesGet("a", api.ErrRange)
	if x.b.Root() != 400 || x.p.Left() != 18 {
		t.Errorf("Root() = %d, %d free", x.b.Root(), x.p.Left())
	}
}

// Promise 10.1: nil, and trees that nobody made, or that have no pager.
func TestNil(t *testing.T) {
	for name, b := range map[string]*Tree{"nil": nil, "blank": {}, "empty": New(nil, -1), "no pager": New(nil, 5)} {
		x := &bench{T: t, b: b}
		if b.Root() != -1 {
			t.Errorf("%s: Root() = %d", name, b.Root())
		}
		for _, n := range []int{math.MinInt, -1, 0, 2, math.MaxInt} {
			x.refusesNode(n, api.ErrInput)
		}
		for _, key := range []string{"", "a", strings.Repeat("k", 65)} {
			x.refusesGet(key, api.ErrInput)
			x.refusesPut(key, data("x"), api.ErrInput)
			x.refusesPut(key, api.Val{}, api.ErrInput)
			x.refusesDelete(key, api.ErrInput)
		}
		if b.Root() != -1 {
			t.Errorf("%s: Root() = %d", name, b.Root())
		}
	}
}

// Promise 10.1: what keys have begins in pages that the tree does not touch.
func TestLongValuesStay(t *testing.T) {
	x := begun(t, 200)
	var pages []int
	for range 40 {
		n, e := x.p.Add(api.PageChain, "long")
		if e != api.OK {
			t.Fatal(e)
		}
		pages = append(pages, n)
		x.others++
	}
	want := map[string]api.Val{}
	for at, n := range pages {
		k := fmt.Sprint("key", at)
		want[k] = long(n, 1000)
		x.adds(k, want[k])
		x.says(want)
	}
	for at, n := range pages {
		k := fmt.Sprint("key", at)
		if at%2 == 0 {
			x.puts(k, data("short"), want[k], true)
		}
		_, _, e := x.b.Delete(k)
		delete(want, k)
		x.says(want)
		if p, f := x.p.Read(n, api.PageChain); e != api.OK || f != api.OK || p.Data != "long" {
			t.Fatalf("page %d of %q: %v, %d, %d", n, k, p, e, f)
		}
	}
	if x.p.Left() != 198-40 {
		t.Errorf("%d pages are free", x.p.Left())
	}
}

// great is a tree three nodes deep, committed, that a change parts or joins.
func great(t *testing.T) (*bench, map[string]api.Val) {
	t.Helper()
	x := begun(t, 200)
	want := map[string]api.Val{}
	for n := range 60 {
		k := fmt.Sprintf("%02d", n) + strings.Repeat("k", 30)
		want[k] = data(strings.Repeat("d", 20))
		x.adds(k, want[k])
	}
	x.commits()
	if pic := x.says(want); pic.deep != 3 {
		t.Fatalf("depth %d", pic.deep)
	}
	return x, want
}

// Promise 10.1: when pages lack, the tree stays, what was taken stays taken, and Undo brings back what was committed.
func TestNoRoom(t *testing.T) {
	_, want := great(t)
	changes := map[string]func(x *bench) api.Errno{}
	for k := range want {
		changes["put ahead of "+k] = func(x *bench) api.Errno { _, _, e := x.b.Put(k[:2], data(strings.Repeat("e", 48))); return e }
		changes["put "+k] = func(x *bench) api.Errno { _, _, e := x.b.Put(k, data("other")); return e }
		changes["delete "+k] = func(x *bench) api.Errno { _, _, e := x.b.Delete(k); return e }
	}
	needs := map[int]int{}
	for name, change := range changes {
		x, want := great(t)
		left, gen := x.p.Left(), x.p.State()
		if e := change(x); e != api.OK {
			t.Fatalf("%s: %d", name, e)
		}
		need := left - x.p.Left()
		needs[need]++
		x.undoes()
		for free := range need + 2 {
			x.takesAllBut(free)
			was := x.says(want)
			e := change(x)
			if free >= need {
				if e != api.OK || x.p.Left() != free-need {
					t.Fatalf("%s: %d of %d pages: %d, %d free", name, free, need, e, x.p.Left())
				}
			} else {
				if e != api.ErrFull || x.p.Left() != 0 {
					t.Fatalf("%s: %d of %d pages: %d, %d free", name, free, need, e, x.p.Left())
				}
				x.others += free
				if !same(was, x.says(want)) {
					t.Fatalf("%s: %d of %d pages: the tree changed", name, free, need)
				}
			}
			x.undoes()
			if !same(was, x.says(want)) || x.p.Left() != left || x.p.State() != gen {
				t.Fatalf("%s: Undo brought back another tree", name)
			}
		}
	}
	if needs[3] == 0 || len(needs) < 2 {
		t.Errorf("pages that changes take: %v", needs)
	}
}

// Promise 10.1: what is not committed stays, too, when pages lack.
func TestNoRoomForWhatIsNew(t *testing.T) {
	for sectors := 2; sectors < 40; sectors++ {
		x := begun(t, sectors)
		want := map[string]api.Val{}
		for n := 0; ; n++ {
			k := fmt.Sprintf("%03d", n*37%1000)
			was, left := x.says(want), x.p.Left()
			_, is, e := x.b.Put(k, data(k+k))
			if e == api.ErrFull {
				x.others += left - x.p.Left()
				if is || x.p.Left() != 0 || !same(was, x.says(want)) {
					t.Fatalf("%d sectors: after %d keys: %v, %d free", sectors, n, is, x.p.Left())
				}
				break
			}
			if e != api.OK || is {
				t.Fatalf("Put(%q) = %v, %d", k, is, e)
			}
			want[k] = data(k + k)
		}
		if len(want) < sectors-2 || sectors == 2 && len(want) > 0 {
			t.Errorf("%d sectors have room for %d keys", sectors, len(want))
		}
		for k, v := range want {
			x.has(k, v, true)
			if len(want) > 1 { // the last one needs no page to go
				x.refusesDelete(k, api.ErrFull)
			}
		}
		x.says(want)
		x.undoes()
		x.says(nil)
	}
}

// Words: an empty tree has no node, so that the last key needs no page to go.
func TestDeleteOfTheLastKeyWithoutRoom(t *testing.T) {
	x := begun(t, 3)
	x.adds("a", data("1"))
	x.refusesPut("a", data("2"), api.ErrFull)
	x.has("a", data("1"), true)
	x.refusesPut("b", data("2"), api.ErrFull)
	x.commits()
	x.deletes("a", data("1"), true)
	x.says(nil)
	x.undoes()
	x.has("a", data("1"), true)
	x.deletes("a", data("1"), true)
	x.commits()
	x.reopens()
	x.says(nil)
	if x.p.Left() != 1 {
		t.Errorf("%d pages are free", x.p.Left())
	}
}

// Promise 10.1: with the error of a disk the tree stays, whichever read it is.
func TestPower(t *testing.T) {
	x, _ := great(t)
	acts := x.d.Acts()
	for at := range 8 {
		for kind := range 3 {
			x, want := greatWith(t, api.Cut{At: acts + 2 + at})
			was := x.look() // without power nothing is looked at
			x.reopens()
			var e api.Errno
			k := slices.Sorted(maps.Keys(want))[30]
			switch kind {
			case 0:
				_, _, e = x.b.Get(k)
			case 1:
				_, _, e = x.b.Put(k, data(strings.Repeat("d", 48)))
			case 2:
				_, _, e = x.b.Delete(k)
			}
			if dead := x.d.Dead(); dead != (e == api.ErrPower) || !dead && e != api.OK || at < 3 && !dead {
				t.Fatalf("act %d, kind %d: %d, dead %v", at, kind, e, dead)
			}
			if e == api.OK {
				continue
			}
			x.d.Up()
			if x.b.Root() != was.root {
				t.Fatalf("Root() = %d, not %d", x.b.Root(), was.root)
			}
			x.others = 198 - len(was.pages) - x.p.Left()
			if !same(was, x.says(want)) {
				t.Fatal("the tree changed")
			}
			x.undoes()
			x.deletes(k, want[k], true)
			delete(want, k)
			x.says(want)
		}
	}
}

// greatWith is the tree of great on a disk whose power fails, opened anew so that no page is held.
func greatWith(t *testing.T, cuts ...api.Cut) (*bench, map[string]api.Val) {
	t.Helper()
	first, want := great(t)
	x := begun(t, 200, cuts...)
	for _, k := range slices.Sorted(maps.Keys(want)) {
		x.adds(k, want[k])
	}
	x.commits()
	if !same(first.look(), x.look()) {
		t.Fatal("the same calls made another tree")
	}
	return x, want
}

// Promise 10.1: a node beside the way that can't be read is an error only where it is needed, and the tree stays.
func TestTorn(t *testing.T) {
	x := begun(t, 20, api.Cut{At: 30, Fates: []int{api.FateTorn}})
	left, mid, right := x.leaf("a1:40", "a2:50"), x.leaf("b1:40", "b2:50"), x.leaf("c1:40", "c2:50")
	x.b = New(x.p, x.inner(left, "b:1", mid, "c:1", right))
	x.commits()
	was := x.look()
	for x.d.Acts() < 29 {
		x.d.Flush()
	}
	if e := x.d.Write(left, "x"); e != api.OK {
		t.Fatal(e)
	}
	if e := x.d.Flush(); e != api.ErrPower {
		t.Fatal(e)
	}
	x.d.Up()
	x.reopens()
	x.refusesNode(left, api.ErrTorn)
	x.refusesGet("a1", api.ErrTorn)
	x.refusesPut("a1", data("x"), api.ErrTorn)
	x.refusesDelete("a1", api.ErrTorn)
	x.refusesDelete("b1", api.ErrTorn) // it would be joined with the one ahead of it
	free := x.p.Left()
	if x.b.Root() != was.root || free != 18-4 {
		t.Errorf("Root() = %d, %d free", x.b.Root(), free)
	}
	x.has("b1", valOf("b1:40"), true)
	x.deletes("c1", valOf("c1:40"), true) // that is not beside it
	x.has("c2", valOf("c2:50"), true)
	x.has("b2", valOf("b2:50"), true)
}

// Promise 10.1 and R1: of pages that are no tree every call ends, with an answer.
func TestNoTree(t *testing.T) {
	x := begun(t, 40)
	loop := x.inner(2, "k:1", 2) // a node that is below itself
	x.b = New(x.p, loop)
	if loop != 2 {
		t.Fatalf("page %d", loop)
	}
	x.refusesGet("a", api.ErrPage)
	x.refusesPut("z", data(""), api.ErrPage)
	x.refusesDelete("a", api.ErrPage)
	// A leaf beside an inner node.
	low, high := x.leaf("a1:40", "a2:50"), x.inner(x.leaf("k1:90"), "m:1", x.leaf("m1:90"))
	x.b = New(x.p, x.inner(low, "k:1", high))
	root, left := x.b.Root(), x.p.Left()
	x.refusesDelete("a1", api.ErrPage)
	x.refusesPut("a2", data(""), api.ErrPage)
	x.has(keyOf("m1:90"), valOf("m1:90"), true)
	if x.b.Root() != root || x.p.Left() != left {
		t.Errorf("Root() = %d, %d free; not %d, %d", x.b.Root(), x.p.Left(), root, left)
	}
	// Inner nodes of one kid alone.
	x.b = New(x.p, x.inner(x.inner(x.leaf("a1:40", "a2:40"))))
	x.adds("a3", data("3"))
	x.has("a1", valOf("a1:40"), true)
	x.deletes("a1", valOf("a1:40"), true)
	x.has("a3", data("3"), true)
}

// R1: whatever pages say, calls end, and with an error the first node stays.
func TestPagesAtRandom(t *testing.T) {
	for seed := range int64(200) {
		r := rand.New(rand.NewSource(seed))
		x := begun(t, 60)
		for at := range 10 {
			x.page(pageAtRandom(r, at, seed%10 == 0))
		}
		x.b = New(x.p, 2+r.Intn(4))
		for range 20 {
			root := x.b.Root()
			key := string(rune('a' + r.Intn(9)))
			var e api.Errno
			switch r.Intn(3) {
			case 0:
				_, _, e = x.b.Get(key)
			case 1:
				_, _, e = x.b.Put(key, data(strings.Repeat("d", r.Intn(49))))
			case 2:
				_, _, e = x.b.Delete(key)
			}
			if e != api.OK && x.b.Root() != root {
				t.Fatalf("seed %d: with %d the first node is in %d, not %d", seed, e, x.b.Root(), root)
			}
		}
	}
}

// pageAtRandom is the node of one of ten pages: the kids of an inner one are whichever they are, or stand behind it.
func pageAtRandom(r *rand.Rand, at int, anywhere bool) api.Node {
	kid := func() int {
		if anywhere {
			return 2 + r.Intn(10)
		}
		return 3 + at + r.Intn(3)
	}
	n := api.Node{Leaf: at > 4 || r.Intn(2) == 0, Kids: []int{kid()}}
	for k := 'a'; k < 'a'+rune(r.Intn(8)); k++ {
		n.Keys = append(n.Keys, string(k)+strings.Repeat("k", r.Intn(20)))
		n.Vals = append(n.Vals, data(strings.Repeat("d", r.Intn(5))))
		n.Kids = append(n.Kids, kid())
	}
	return n
}
