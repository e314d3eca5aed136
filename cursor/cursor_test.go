package cursor

import (
	"fmt"
	"maps"
	"math"
	"math/rand"
	"slices"
	"strings"
	"testing"

	"keyway/api"
	"keyway/btree"
	"keyway/disk"
	"keyway/pager"
)

const broken api.Errno = 999 // no error of the program's own

// data is what stands in a leaf itself; long, so many bytes that begin in a page.
func data(s string) api.Val             { return api.Val{Data: s, Page: -1} }
func long(page, many int) api.Val       { return api.Val{Page: page, Len: many} }
func pair(k string, v api.Val) api.Pair { return api.Pair{Key: k, Val: v} }

// bench is a tree on a disk of its own, and the pairs that it must have.
type bench struct {
	*testing.T
	d    *disk.Disk
	p    *pager.Pager
	b    *btree.Tree
	want []api.Pair
}

// begun is an empty tree on a disk of so many sectors.
func begun(t *testing.T, sectors int) *bench {
	t.Helper()
	d, e := disk.New(sectors, nil)
	if e != api.OK {
		t.Fatalf("disk.New(%d) = %d", sectors, e)
	}
	if e := pager.Format(d); e != api.OK {
		t.Fatalf("Format = %d", e)
	}
	p, e := pager.Open(d)
	if e != api.OK {
		t.Fatalf("Open = %d", e)
	}
	return &bench{T: t, d: d, p: p, b: btree.New(p, -1)}
}

// grown is a tree that has these pairs, put in an order that is not theirs.
func grown(t *testing.T, pairs ...api.Pair) *bench {
	t.Helper()
	x := begun(t, 2000)
	for _, at := range rand.New(rand.NewSource(11)).Perm(len(pairs)) {
		if _, _, e := x.b.Put(pairs[at].Key, pairs[at].Val); e != api.OK {
			t.Fatalf("Put(%q) = %d", pairs[at].Key, e)
		}
	}
	x.want = slices.SortedFunc(slices.Values(pairs), func(a, b api.Pair) int { return strings.Compare(a.Key, b.Key) })
	return x
}

// many is so many pairs, of keys of unlike lengths, some of which have what begins in a page.
func many(n int) []api.Pair {
	var pairs []api.Pair
	for at := range n {
		key := fmt.Sprintf("k%04d", at) + strings.Repeat("-", at%40)
		v := data(strings.Repeat("d", at%(api.MostInline+1)))
		if at%5 == 0 {
			v = long(at%api.MostSectors, api.MostInline+1+at)
		}
		pairs = append(pairs, pair(key, v))
	}
	return pairs
}

// deep is how many levels a tree has.
func (x *bench) deep() int {
	x.Helper()
	levels := 0
	for n := x.b.Root(); n != -1; levels++ {
		here := x.node(n)
		if n = -1; !here.Leaf {
			n = here.Kids[0]
		}
	}
	return levels
}

func (x *bench) node(n int) api.Node {
	x.Helper()
	here, e := x.b.Node(n)
	if e != api.OK {
		x.Fatalf("Node(%d) = %d", n, e)
	}
	return here
}

// trees is a tree of no key, of one leaf, and of several levels.
func trees(t *testing.T) map[string]*bench {
	t.Helper()
	all := map[string]*bench{
		"no key":         grown(t),
		"one key":        grown(t, pair("k", data("1"))),
		"the empty key":  grown(t, pair("", data("")), pair("\x00", long(3, 49)), pair("\xff\xff", data("2"))),
		"one leaf":       grown(t, pair("a", data("1")), pair("c", long(7, 300)), pair("e", data(""))),
		"two levels":     grown(t, many(14)...),
		"several levels": grown(t, many(400)...),
	}
	for name, levels := range map[string]int{"no key": 0, "one key": 1, "the empty key": 1, "one leaf": 1, "two levels": 2, "several levels": 4} {
		if got := all[name].deep(); got != levels {
			t.Fatalf("%s: %d levels", name, got)
		}
	}
	return all
}

// froms is the keys of a tree, some right ahead of them and behind them, and some far from all.
func (x *bench) froms() []string {
	keys := []string{"", "\x00", "b", "k", "z", "\xff\xff\xff", strings.Repeat("\xff", api.MostKey+1), "k0200" + strings.Repeat("-", 100)}
	for _, p := range x.want {
		keys = append(keys, p.Key, p.Key+"\x00", strings.TrimSuffix(p.Key, "-"))
		if len(p.Key) > 0 {
			last := len(p.Key) - 1
			keys = append(keys, p.Key[:last], p.Key[:last]+string([]byte{p.Key[last] + 1}), p.Key[:last]+string([]byte{p.Key[last] - 1}))
		}
	}
	return keys
}

// from is the pairs that a tree must have from a key on.
func (x *bench) from(key string) []api.Pair {
	var pairs []api.Pair
	for _, p := range x.want {
		if p.Key >= key {
			pairs = append(pairs, p)
		}
	}
	return pairs
}

// Promise 11.1, From: the pairs from a key on, rising; without an error e is not touched.
func TestFrom(t *testing.T) {
	for name, x := range trees(t) {
		root, left := x.b.Root(), x.p.Left()
		for _, from := range x.froms() {
			for _, e := range []*api.Errno{nil, new(api.Errno)} {
				got := slices.Collect(From(x.b, from, e))
				if want := x.from(from); !slices.Equal(got, want) {
					t.Fatalf("%s: From(%q) = %v, not %v", name, from, got, want)
				}
				if e != nil && *e != api.OK {
					t.Fatalf("%s: From(%q): %d", name, from, *e)
				}
			}
		}
		if x.b.Root() != root || x.p.Left() != left {
			t.Errorf("%s: From changed the tree", name)
		}
	}
}

// Promise 11.1, From: it ends where the one who goes over it wants.
func TestFromEndsWhereItIsWanted(t *testing.T) {
	for name, x := range trees(t) {
		for ends := 1; ends <= len(x.want)+1; ends += 1 + ends/20 {
			var got []api.Pair
			e := broken
			From(x.b, "", &e)(func(p api.Pair) bool {
				if len(got) >= ends {
					t.Fatalf("%s: %v behind the end", name, p)
				}
				got = append(got, p)
				return len(got) < ends
			})
			if want := x.want[:min(ends, len(x.want))]; !slices.Equal(got, want) || e != broken {
				t.Fatalf("%s: %d of From = %v, %d; not %v", name, ends, got, e, want)
			}
		}
	}
}

// Promise 11.1, From, and R2: it can be gone over again and again, each time over the tree as it is then.
func TestFromAgain(t *testing.T) {
	x := grown(t, many(60)...)
	var e api.Errno
	all := From(x.b, "", &e)
	for range 3 {
		for range all { // a go that ends early
			break
		}
		if got := slices.Collect(all); !slices.Equal(got, x.want) || e != api.OK {
			t.Fatalf("From = %v, %d", got, e)
		}
	}
	var both []string // one within the other
	for a := range From(x.b, "k0057", nil) {
		for b := range From(x.b, a.Key, nil) {
			both = append(both, a.Key[:5]+b.Key[:5])
		}
	}
	if want := "k0057k0057 k0057k0058 k0057k0059 k0058k0058 k0058k0059 k0059k0059"; strings.Join(both, " ") != want {
		t.Errorf("one within the other: %v", both)
	}
	if _, _, e := x.b.Put("a", data("new")); e != api.OK {
		t.Fatal(e)
	}
	if got := slices.Collect(all); !slices.Equal(got, append([]api.Pair{pair("a", data("new"))}, x.want...)) || e != api.OK {
		t.Errorf("From = %v, %d", got, e)
	}
}

// The tree may be changed by the one who goes over it: keys still rise, and none that stays is left out.
func TestFromOfTreesThatChange(t *testing.T) {
	x := grown(t, many(300)...)
	var got []api.Pair
	var e api.Errno
	for p := range From(x.b, "", &e) {
		got = append(got, p)
		if _, is, err := x.b.Delete(p.Key); !is || err != api.OK {
			t.Fatalf("Delete(%q) = %v, %d", p.Key, is, err)
		}
	}
	if !slices.Equal(got, x.want) || e != api.OK || x.b.Root() != -1 {
		t.Errorf("From = %v, %d; the first node is in %d", got, e, x.b.Root())
	}

	x, got = grown(t, many(300)...), nil
	for p := range From(x.b, "", &e) {
		got = append(got, p)
		for n := range 3 {
			if _, _, err := x.b.Put(fmt.Sprintf("a%s%d", p.Key[:5], n), data(strings.Repeat("d", api.MostInline))); err != api.OK {
				t.Fatalf("Put = %d", err)
			}
		}
	}
	if !slices.Equal(got, x.want) || e != api.OK {
		t.Errorf("From = %v, %d", got, e)
	}
}

// Promise 11.1, Range: the pairs from one key on and below another one, most at most.
func TestRange(t *testing.T) {
	r := rand.New(rand.NewSource(12))
	for name, x := range trees(t) {
		keys := x.froms()
		for range 4000 {
			from, to := keys[r.Intn(len(keys))], keys[r.Intn(len(keys))]
			most := []int{math.MinInt, -1, 0, 1, 2, r.Intn(len(x.want) + 1), len(x.want), len(x.want) + 1, math.MaxInt}[r.Intn(9)]
			want := slices.DeleteFunc(x.from(from), func(p api.Pair) bool { return p.Key >= to })
			want = want[:min(max(most, 0), len(want))]
			if got, e := Range(x.b, from, to, most); e != api.OK || !slices.Equal(got, want) {
				t.Fatalf("%s: Range(%q, %q, %d) = %v, %d; not %v", name, from, to, most, got, e, want)
			}
		}
		end := strings.Repeat("\xff", 3)
		if got, e := Range(x.b, "", end, len(x.want)); e != api.OK || !slices.Equal(got, x.want) {
			t.Errorf("%s: Range of all = %v, %d", name, got, e)
		}
		for _, p := range x.want {
			if got, e := Range(x.b, p.Key, p.Key, 9); e != api.OK || len(got) != 0 {
				t.Errorf("%s: Range(%q) below itself = %v, %d", name, p.Key, got, e)
			}
			if got, e := Range(x.b, p.Key, p.Key+"\x00", 9); e != api.OK || !slices.Equal(got, []api.Pair{p}) {
				t.Errorf("%s: Range(%q) alone = %v, %d", name, p.Key, got, e)
			}
		}
	}
}

// The chapter's example: keys a, c, e; from b below e there is c.
func TestExample(t *testing.T) {
	x := grown(t, pair("a", data("1")), pair("c", data("2")), pair("e", data("3")))
	if got, e := Range(x.b, "b", "e", 9); e != api.OK || !slices.Equal(got, []api.Pair{pair("c", data("2"))}) {
		t.Errorf("Range = %v, %d", got, e)
	}
}

// R2: what Range answers is the caller's own.
func TestRangeIsTheCallers(t *testing.T) {
	x := grown(t, many(30)...)
	a, _ := Range(x.b, "", "z", 99)
	b, _ := Range(x.b, "", "z", 99)
	for at := range a {
		a[at] = api.Pair{}
	}
	again, e := Range(x.b, "", "z", 99)
	if e != api.OK || !slices.Equal(b, x.want) || !slices.Equal(again, x.want) {
		t.Errorf("Range = %v, then %v, %d", b, again, e)
	}
	x.b.Delete(b[0].Key)
	if !slices.Equal(b, x.want) {
		t.Errorf("an answer changed with the tree: %v", b)
	}
}

// Promise 11.1, Next: the first one from a key on; false, and nothing beside it.
func TestNext(t *testing.T) {
	for name, x := range trees(t) {
		for _, from := range x.froms() {
			var want api.Pair
			rest := x.from(from)
			if len(rest) > 0 {
				want = rest[0]
			}
			if got, is, e := Next(x.b, from); got != want || is != (len(rest) > 0) || e != api.OK {
				t.Fatalf("%s: Next(%q) = %v, %v, %d; not %v", name, from, got, is, e, want)
			}
		}
	}
}

// behind is the pages of a node and of those below it, each behind those below it.
func (x *bench) behind(n int) []int {
	x.Helper()
	var pages []int
	for _, kid := range x.node(n).Kids {
		pages = append(pages, x.behind(kid)...)
	}
	return append(pages, n)
}

// asks holds what is asked of each key's value, up to one that is answered by an error (-1: none is), and what Pages tells then.
func (x *bench) asks(fails int) ([]int, api.Errno) {
	x.Helper()
	var asked []api.Val
	pages, e := Pages(x.b, func(v api.Val) api.Errno {
		asked = append(asked, v)
		if len(asked)-1 == fails {
			return broken
		}
		return api.OK
	})
	var want []api.Val
	for at, p := range x.want {
		if fails < 0 || at <= fails {
			want = append(want, p.Val)
		}
	}
	if !slices.Equal(asked, want) {
		x.Fatalf("asked of %v, not of %v", asked, want)
	}
	return pages, e
}

// Promise 11.1, Pages: the pages of all nodes, each once, each behind those below it; each is asked of what each key has.
func TestPages(t *testing.T) {
	for name, x := range trees(t) {
		root, left := x.b.Root(), x.p.Left()
		pages, e := x.asks(-1)
		if e != api.OK {
			t.Fatalf("%s: Pages = %d", name, e)
		}
		var want []int
		if root != -1 {
			want = x.behind(root)
		}
		if !slices.Equal(pages, want) {
			t.Errorf("%s: Pages = %v, not %v", name, pages, want)
		}
		if len(pages) > 0 && pages[len(pages)-1] != root {
			t.Errorf("%s: the first node's page %d is not the last one of %v", name, root, pages)
		}
		if once := slices.Compact(slices.Sorted(slices.Values(pages))); len(once) != 2000-api.FirstPage-left || len(once) != len(pages) {
			t.Errorf("%s: %d pages, %d unlike ones, where %d are used", name, len(pages), len(once), 2000-api.FirstPage-left)
		}
		if alone, e := Pages(x.b, nil); e != api.OK || !slices.Equal(alone, want) {
			t.Errorf("%s: Pages, with nobody to ask = %v, %d", name, alone, e)
		}
		for at := range pages { // it is the caller's own
			pages[at] = 0
		}
		if again, e := x.asks(-1); e != api.OK || !slices.Equal(again, want) || x.b.Root() != root || x.p.Left() != left {
			t.Errorf("%s: again: %v, %d", name, again, e)
		}
	}
}

// Promise 11.1, Pages: the error of the one who is asked ends it, and there is nothing beside it.
func TestPagesEndsByTheOneAsked(t *testing.T) {
	for name, x := range trees(t) {
		for fails := range x.want {
			if pages, e := x.asks(fails); e != broken || pages != nil {
				t.Fatalf("%s: Pages, with an error of the one asked of %d = %v, %d", name, fails, pages, e)
			}
		}
	}
}

// Trees that are nil, or have no pager, have nothing: their Root is -1.
func TestNoTree(t *testing.T) {
	for _, b := range []*btree.Tree{nil, btree.New(nil, -1), btree.New(nil, 2)} {
		e := broken
		for p := range From(b, "", &e) {
			t.Errorf("From has %v", p)
		}
		if e != broken {
			t.Errorf("From: %d", e)
		}
		if got, e := Range(b, "", "z", 9); len(got) != 0 || e != api.OK {
			t.Errorf("Range = %v, %d", got, e)
		}
		if got, is, e := Next(b, ""); got != (api.Pair{}) || is || e != api.OK {
			t.Errorf("Next = %v, %v, %d", got, is, e)
		}
		if got, e := Pages(b, nil); len(got) != 0 || e != api.OK {
			t.Errorf("Pages = %v, %d", got, e)
		}
	}
}

// A tree that became empty has nothing, and one that grew anew has what it was given.
func TestTreesThatBecomeEmpty(t *testing.T) {
	x := grown(t, many(50)...)
	for range 2 {
		for _, p := range x.want {
			if _, is, e := x.b.Delete(p.Key); !is || e != api.OK {
				t.Fatalf("Delete = %v, %d", is, e)
			}
		}
		pages, e := Pages(x.b, func(api.Val) api.Errno { return broken })
		got := slices.Collect(From(x.b, "", &e))
		if len(got)+len(pages) != 0 || e != api.OK {
			t.Errorf("From = %v, Pages = %v, %d", got, pages, e)
		}
		for _, p := range x.want {
			x.b.Put(p.Key, p.Val)
		}
		if got := slices.Collect(From(x.b, "", &e)); !slices.Equal(got, x.want) || e != api.OK {
			t.Errorf("From = %v, %d", got, e)
		}
	}
}

// Trees that grow and shrink at random are gone over as a map of them says.
func TestWalks(t *testing.T) {
	r := rand.New(rand.NewSource(13))
	for range 20 {
		x, model := begun(t, 2000), map[string]api.Val{}
		for turn := range 600 {
			key := strings.Repeat(string(rune('a'+r.Intn(4))), r.Intn(20)) + string(rune('a'+r.Intn(26)))
			if r.Intn(3) == 0 {
				x.b.Delete(key)
				delete(model, key)
			} else {
				v := data(strings.Repeat("d", r.Intn(api.MostInline+1)))
				x.b.Put(key, v)
				model[key] = v
			}
			if turn%20 > 0 {
				continue
			}
			x.want = nil
			for _, k := range slices.Sorted(maps.Keys(model)) {
				x.want = append(x.want, pair(k, model[k]))
			}
			var e api.Errno
			if got := slices.Collect(From(x.b, key, &e)); !slices.Equal(got, x.from(key)) || e != api.OK {
				t.Fatalf("From(%q) = %v, %d; not %v", key, got, e, x.from(key))
			}
			if pages, e := x.asks(-1); e != api.OK || x.b.Root() != -1 && !slices.Equal(pages, x.behind(x.b.Root())) {
				t.Fatalf("Pages = %v, %d", pages, e)
			}
		}
	}
}
