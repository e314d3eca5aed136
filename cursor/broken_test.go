package cursor

import (
	"math"
	"slices"
	"strings"
	"testing"

	"keyway/api"
	"keyway/btree"
	"keyway/disk"
	"keyway/node"
	"keyway/page"
	"keyway/pager"
)

// commits lets the tree be there for good.
func (x *bench) commits() {
	x.Helper()
	if e := x.p.Commit(x.b.Root()); e != api.OK {
		x.Fatalf("Commit = %d", e)
	}
}

// opened is the same tree on a disk of the same sectors, but of some that say other things, or are torn; whose power fails, if so, in a read.
func (x *bench) opened(torn []int, other map[int]string, fails ...int) *bench {
	x.Helper()
	count := x.d.Sectors()
	cuts := []api.Cut{{At: count + 1 + len(torn), Fates: slices.Repeat([]int{api.FateTorn}, len(torn))}}
	for _, at := range fails {
		cuts = append(cuts, api.Cut{At: api.FirstPage + at})
	}
	d, e := disk.New(count, cuts)
	if e != api.OK {
		x.Fatalf("disk.New = %d", e)
	}
	for n := range count {
		says, e := x.d.Read(n)
		if instead, is := other[n]; is {
			says = instead
		}
		if e != api.OK || d.Write(n, says) != api.OK {
			x.Fatalf("sector %d: %d", n, e)
		}
	}
	d.Flush()
	for _, n := range torn {
		d.Write(n, "")
	}
	if e := d.Flush(); e != api.ErrPower {
		x.Fatalf("Flush = %d", e)
	}
	d.Up()
	p, e := pager.Open(d)
	if e != api.OK {
		x.Fatalf("Open = %d", e)
	}
	return &bench{T: x.T, d: d, p: p, b: btree.New(p, p.State().Root), want: x.want}
}

// bound is the page of a node, and which keys belong to it or below it: from one on, and below another one (nothing: all others).
type bound struct {
	page     int
	from, to string
}

// bounds is all nodes of a tree, each ahead of those below it.
func (x *bench) bounds(n int, from, to string) []bound {
	x.Helper()
	here := x.node(n)
	all := []bound{{page: n, from: from, to: to}}
	ends := slices.Concat([]string{from}, here.Keys, []string{to})
	for at, kid := range here.Kids {
		all = append(all, x.bounds(kid, ends[at], ends[at+1])...)
	}
	return all
}

// ahead is the pairs from a key on that must come ahead of a page.
func (x *bench) ahead(from string, b bound) []api.Pair {
	return slices.DeleteFunc(x.from(from), func(p api.Pair) bool { return p.Key >= b.from })
}

// endsAt holds that From, Range and Next, from a key on, tell what comes ahead of a page, and that behind that there is an error.
func (x *bench) endsAt(from string, b bound, err api.Errno) {
	x.Helper()
	ahead := x.ahead(from, b)
	e := broken
	if got := slices.Collect(From(x.b, from, &e)); !slices.Equal(got, ahead) || e != err {
		x.Fatalf("page %d: From(%q) = %v, %d; not %v, %d", b.page, from, got, e, ahead, err)
	}
	if got := slices.Collect(From(x.b, from, nil)); !slices.Equal(got, ahead) {
		x.Fatalf("page %d: From(%q) = %v; not %v", b.page, from, got, ahead)
	}
	if got, e := Range(x.b, from, "\xff", math.MaxInt); got != nil || e != err {
		x.Fatalf("page %d: Range(%q) = %v, %d; not %d", b.page, from, got, e, err)
	}
	// As many as are ahead of it can be had, and one more can't.
	if got, e := Range(x.b, from, "\xff", len(ahead)); e != api.OK || !slices.Equal(got, ahead) {
		x.Fatalf("page %d: Range(%q) of %d = %v, %d", b.page, from, len(ahead), got, e)
	}
	if got, e := Range(x.b, from, "\xff", len(ahead)+1); got != nil || e != err {
		x.Fatalf("page %d: Range(%q) of %d = %v, %d", b.page, from, len(ahead)+1, got, e)
	}
	got, is, e := Next(x.b, from)
	if len(ahead) > 0 && (got != ahead[0] || !is || e != api.OK) || len(ahead) == 0 && (got != (api.Pair{}) || is || e != err) {
		x.Fatalf("page %d: Next(%q) = %v, %v, %d; not of %v, %d", b.page, from, got, is, e, ahead, err)
	}
}

// ends holds that a page that can't be read ends all that comes to it, and nothing that does not.
func (x *bench) ends(b bound, err api.Errno) {
	x.Helper()
	x.endsAt("", b, err)
	x.endsAt(b.from, b, err)
	if b.to != "" {
		x.endsAt(b.to[:len(b.to)-1], b, err)
		if got := slices.Collect(From(x.b, b.to, nil)); !slices.Equal(got, x.from(b.to)) {
			x.Fatalf("page %d: From(%q) = %v", b.page, b.to, got)
		}
	}
	if got, e := Pages(x.b, nil); got != nil || e != err {
		x.Fatalf("page %d: Pages = %v, %d; not %d", b.page, got, e, err)
	}
}

// Promise 11.1: where a page can't be read it ends, and e is that error: torn ones, and such that are no nodes.
func TestPagesThatCantBeRead(t *testing.T) {
	for _, n := range []int{3, 14, 120} {
		x := grown(t, many(n)...)
		x.commits()
		chained := func(n int) string {
			return page.Put(api.Page{Kind: api.PageChain, Number: n, Gen: 2, Data: "\x00x"})
		}
		noNode := func(n int) string {
			return page.Put(api.Page{Kind: api.PageLeaf, Number: n, Gen: 2, Data: "\x01"})
		}
		for _, b := range x.bounds(x.b.Root(), "", "") {
			x.opened([]int{b.page}, nil).ends(b, api.ErrTorn)
			x.opened(nil, map[int]string{b.page: ""}).ends(b, api.ErrPage)
			x.opened(nil, map[int]string{b.page: chained(b.page)}).ends(b, api.ErrPage)
			x.opened(nil, map[int]string{b.page: noNode(b.page)}).ends(b, api.ErrPage)
		}
	}
}

// Promise 11.1: what a disk without power says is told, at whichever page that is; what was told ahead of it is right.
func TestPowerThatFails(t *testing.T) {
	x := grown(t, many(60)...)
	x.commits()
	pages := x.bounds(x.b.Root(), "", "")
	for at, b := range pages { // the power fails when that page is read
		y := x.opened(nil, nil, at)
		e := broken
		if got := slices.Collect(From(y.b, "", &e)); !slices.Equal(got, y.ahead("", b)) || e != api.ErrPower {
			t.Fatalf("page %d: From = %v, %d", b.page, got, e)
		}
		if got, e := Range(y.b, "", "z", 99); got != nil || e != api.ErrPower {
			t.Fatalf("page %d: Range = %v, %d", b.page, got, e)
		}
		if got, is, e := Next(y.b, ""); got != (api.Pair{}) || is || e != api.ErrPower {
			t.Fatalf("page %d: Next = %v, %v, %d", b.page, got, is, e)
		}
		if got, e := Pages(y.b, nil); got != nil || e != api.ErrPower {
			t.Fatalf("page %d: Pages = %v, %d", b.page, got, e)
		}
		y.d.Up()
		if got := slices.Collect(From(y.b, "", nil)); !slices.Equal(got, x.want) {
			t.Fatalf("page %d: with power again From = %v", b.page, got)
		}
		y = x.opened(nil, nil, at)
		if got, e := Pages(y.b, nil); got != nil || e != api.ErrPower {
			t.Fatalf("page %d: Pages = %v, %d", b.page, got, e)
		}
	}
	y := x.opened(nil, nil, len(pages))
	var e api.Errno
	if got := slices.Collect(From(y.b, "", &e)); !slices.Equal(got, x.want) || e != api.OK {
		t.Errorf("From = %v, %d: a page was read twice", got, e)
	}
}

// Pages are read when they are needed, not ahead of that.
func TestPagesThatAreRead(t *testing.T) {
	x := grown(t, many(400)...)
	x.commits()
	levels, all := x.deep(), len(x.bounds(x.b.Root(), "", ""))
	for _, c := range []struct {
		name string
		do   func(y *bench)
		most int
	}{
		{"From", func(y *bench) { From(y.b, "", nil) }, 0},
		{"Range of 0", func(y *bench) { Range(y.b, "", "z", 0) }, 0},
		{"Next", func(y *bench) { Next(y.b, "") }, levels},
		{"Next in the midst", func(y *bench) { Next(y.b, x.want[200].Key) }, levels},
		{"Range of 1", func(y *bench) { Range(y.b, "", "z", 1) }, levels},
		{"Range of the last ones", func(y *bench) { Range(y.b, x.want[399].Key, "z", 9) }, levels},
		{"Range of few", func(y *bench) { Range(y.b, "k0100", "k0110", 99) }, levels + 16},
		{"Pages that end", func(y *bench) { Pages(y.b, func(api.Val) api.Errno { return broken }) }, levels},
		{"Pages", func(y *bench) { Pages(y.b, nil) }, all},
	} {
		y := x.opened(nil, nil)
		acts := y.d.Acts()
		c.do(y)
		if read := y.d.Acts() - acts; read > c.most {
			t.Errorf("%s: %d pages were read, not %d at most", c.name, read, c.most)
		}
	}
}

// put is the page of a new node.
func (x *bench) put(n api.Node) int {
	x.Helper()
	kind := api.PageInner
	if n.Leaf {
		kind = api.PageLeaf
	}
	at, e := x.p.Add(kind, node.Put(n))
	if e != api.OK {
		x.Fatalf("Add = %d", e)
	}
	return at
}

// leaf is the page of a new leaf of keys that have themselves.
func (x *bench) leaf(keys ...string) int {
	x.Helper()
	n := api.Node{Leaf: true, Keys: keys}
	for _, k := range keys {
		n.Vals = append(n.Vals, data(k))
	}
	return x.put(n)
}

// told is the keys from one on, and the error.
func told(b *btree.Tree, from string) (string, api.Errno) {
	var keys []string
	var e api.Errno
	for p := range From(b, from, &e) {
		keys = append(keys, p.Key)
	}
	return strings.Join(keys, " "), e
}

// R1: it ends in what is no tree, too: where nodes are below themselves or at two places, and where keys belong elsewhere. What is told rises.
func TestWhatIsNoTree(t *testing.T) {
	x := begun(t, 20)
	ac, e, g := x.leaf("a", "c"), x.leaf("e"), x.leaf("g", "i")
	for _, c := range []struct {
		name  string
		root  int
		keys  string
		err   api.Errno
		pages api.Errno
	}{
		{"empty leaves", x.put(api.Node{Keys: []string{"b", "d", "f"}, Kids: []int{x.leaf(), x.leaf(), e, x.leaf()}}), "e", api.OK, api.OK},
		{"a first node of one kid", x.put(api.Node{Kids: []int{ac}}), "a c", api.OK, api.OK},
		{"unlike depths", x.put(api.Node{Keys: []string{"d"}, Kids: []int{ac, x.put(api.Node{Keys: []string{"f"}, Kids: []int{e, g}})}}), "a c e g i", api.OK, api.OK},
		{"a leaf at two places", x.put(api.Node{Keys: []string{"c"}, Kids: []int{ac, ac}}), "a c", api.OK, api.ErrPage},
		{"keys that belong elsewhere", x.put(api.Node{Keys: []string{"d"}, Kids: []int{g, ac}}), "", api.OK, api.OK},
		{"keys above those above", x.put(api.Node{Keys: []string{"d"}, Kids: []int{x.put(api.Node{Keys: []string{"f"}, Kids: []int{ac, g}}), x.leaf("e", "k")}}), "a c e k", api.OK, api.OK},
		{"no such page", x.put(api.Node{Keys: []string{"d"}, Kids: []int{ac, 20}}), "a c", api.ErrRange, api.ErrRange},
		{"the state's page", x.put(api.Node{Keys: []string{"d"}, Kids: []int{ac, 0}}), "a c", api.ErrPage, api.ErrPage},
		{"no first node", 20, "", api.ErrRange, api.ErrRange},
		{"a first node below -1", -2, "", api.ErrRange, api.ErrRange},
	} {
		b := btree.New(x.p, c.root)
		if keys, e := told(b, ""); keys != c.keys || e != c.err {
			t.Errorf("%s: From = %s, %d; not %s, %d", c.name, keys, e, c.keys, c.err)
		}
		if pages, e := Pages(b, nil); e != c.pages || e != api.OK && pages != nil {
			t.Errorf("%s: Pages = %v, %d; not %d", c.name, pages, e, c.pages)
		}
	}
}

// R1: rings of nodes, and nodes that are at very many places, end.
func TestRingsAndLadders(t *testing.T) {
	x := begun(t, 60)
	ring := x.p.Left()
	for n := range ring { // each node has the next one twice, and the last one has the first one
		next := api.FirstPage + (n+1)%ring
		if at := x.put(api.Node{Keys: []string{"m"}, Kids: []int{next, next}}); at != api.FirstPage+n {
			t.Fatalf("page %d", at)
		}
	}
	b := btree.New(x.p, api.FirstPage)
	if keys, e := told(b, ""); keys != "" || e != api.ErrPage {
		t.Errorf("a ring: From = %s, %d", keys, e)
	}
	if _, is, e := Next(b, "m"); is || e != api.ErrPage {
		t.Errorf("a ring: Next = %v, %d", is, e)
	}
	if pages, e := Pages(b, nil); pages != nil || e != api.ErrPage {
		t.Errorf("a ring: Pages = %v, %d", pages, e)
	}

	x = begun(t, 60)
	at := x.leaf("a", "x")
	for x.p.Left() > 0 {
		at = x.put(api.Node{Keys: []string{"m"}, Kids: []int{at, at}})
	}
	b = btree.New(x.p, at)
	if keys, e := told(b, ""); keys != "a x" || e != api.OK {
		t.Errorf("a ladder: From = %s, %d", keys, e)
	}
	if pages, e := Pages(b, nil); pages != nil || e != api.ErrPage {
		t.Errorf("a ladder: Pages = %v, %d", pages, e)
	}
}
