package btree

import (
	"fmt"
	"maps"
	"math/rand"
	"slices"
	"strconv"
	"strings"
	"testing"

	"keyway/api"
	"keyway/node"
)

// Trees are laid out here by hand. A leaf's key is told as a name and how many bytes it takes with what it has; an inner node's as a name and its own bytes. A key is its name, filled up with points.

// named is the name and the number of a key that is told.
func named(s string) (string, int) {
	name, number, _ := strings.Cut(s, ":")
	n, err := strconv.Atoi(number)
	if err != nil {
		panic(s)
	}
	return name, n
}

// padded is a key of so many bytes.
func padded(name string, bytes int) string {
	return name + strings.Repeat(".", max(0, bytes-len(name)))
}

// keyOf and valOf are a leaf's key and what it has, that take so many bytes: what it has is filled first.
func keyOf(s string) string {
	name, bytes := named(s)
	return padded(name, bytes-3-api.MostInline)
}

func valOf(s string) api.Val {
	_, bytes := named(s)
	return data(strings.Repeat("d", bytes-3-len(keyOf(s))))
}

// leaf is the page of a new leaf.
func (x *bench) leaf(items ...string) int {
	x.Helper()
	n := api.Node{Leaf: true}
	for _, s := range items {
		n.Keys = append(n.Keys, keyOf(s))
		n.Vals = append(n.Vals, valOf(s))
	}
	return x.page(n)
}

// inner is the page of a new inner node, of kids with keys between them.
func (x *bench) inner(parts ...any) int {
	x.Helper()
	var n api.Node
	for _, part := range parts {
		switch p := part.(type) {
		case int:
			n.Kids = append(n.Kids, p)
		case string:
			n.Keys = append(n.Keys, padded(named(p)))
		}
	}
	return x.page(n)
}

// draw is the names of a tree's keys: leaves in [], inner nodes in ().
func (x *bench) draw(n int) string {
	x.Helper()
	if n == -1 {
		return "nothing"
	}
	here, e := x.b.Node(n)
	if e != api.OK {
		x.Fatalf("Node(%d) = %d", n, e)
	}
	var names []string
	for at, k := range here.Keys {
		if !here.Leaf {
			names = append(names, x.draw(here.Kids[at]))
		}
		names = append(names, strings.TrimRight(k, "."))
	}
	if here.Leaf {
		return "[" + strings.Join(names, " ") + "]"
	}
	return "(" + strings.Join(append(names, x.draw(here.Kids[len(here.Keys)])), " ") + ")"
}

// bytes is how many bytes the node of a page takes.
func (x *bench) bytes(n int) int {
	x.Helper()
	here, e := x.b.Node(n)
	if e != api.OK {
		x.Fatalf("Node(%d) = %d", n, e)
	}
	return len(node.Put(here))
}

// laid is a tree as a case lays it out: its first page.
type laid func(x *bench) int

// after holds what a tree is drawn as behind a change, both when it is new and when it is committed, and that only what changes is in new pages.
func after(t *testing.T, lay laid, change func(x *bench) string, want string) {
	t.Helper()
	for _, committed := range []bool{false, true} {
		x := begun(t, 120)
		x.b = New(x.p, lay(x))
		if committed {
			x.commits()
		}
		was, drawn := x.look(), x.draw(x.b.Root())
		key := change(x)
		if got := x.draw(x.b.Root()); got != want {
			t.Errorf("%s became %s, not %s", drawn, got, want)
			return
		}
		x.moved(was, x.look(), key)
	}
}

// put gives a key what takes so many bytes with it; del takes a key away.
func put(s string) func(x *bench) string {
	return func(x *bench) string {
		x.Helper()
		if _, _, e := x.b.Put(keyOf(s), valOf(s)); e != api.OK {
			x.Fatalf("Put(%s) = %d", s, e)
		}
		return keyOf(s)
	}
}

func del(s string) func(x *bench) string {
	return func(x *bench) string {
		x.Helper()
		x.deletes(keyOf(s), valOf(s), true)
		return keyOf(s)
	}
}

// Words: a leaf is parted when it takes more than PageBytes bytes, and not ahead of that.
func TestLeavesAreParted(t *testing.T) {
	lay := func(x *bench) int { return x.leaf("a1:50", "a2:50", "a3:50", "a5:50") } // 201 bytes
	after(t, lay, put("a4:36"), "[a1 a2 a3 a4 a5]")
	after(t, lay, put("a4:37"), "([a1 a2] a3 [a3 a4 a5])") // 100 and 137, not 150 and 87
	after(t, lay, put("a0:37"), "([a0 a1 a2] a3 [a3 a5])") // 137 and 100
	after(t, lay, put("a6:37"), "([a1 a2] a3 [a3 a5 a6])")
	after(t, lay, put("a6:115"), "([a1 a2 a3] a5 [a5 a6])")
	after(t, lay, put("a0:115"), "([a0 a1] a2 [a2 a3 a5])")
	full := func(x *bench) int { return x.leaf("a1:115", "a2:115") }
	after(t, full, put("a3:6"), "[a1 a2 a3]")
	after(t, full, put("a3:7"), "([a1] a2 [a2 a3])")
	after(t, full, put("a3:115"), "([a1] a2 [a2 a3])")
	grows := func(x *bench) int { return x.leaf("a1:50", "a2:50", "a3:50", "a4:50", "a5:35") } // 236 bytes
	after(t, grows, put("a5:36"), "[a1 a2 a3 a4 a5]")
	after(t, grows, put("a5:37"), "([a1 a2] a3 [a3 a4 a5])")
}

// Words: the parts of a node stand in the one above it, with the key between them; one that becomes too great by that is parted, too.
func TestInnerNodesAreParted(t *testing.T) {
	three := func(x *bench) int {
		return x.inner(x.leaf("a1:50", "a2:50"), "b:1", x.leaf("b1:50", "b2:50", "b3:50", "b4:50"), "c:1", x.leaf("c1:50", "c2:50"))
	}
	after(t, three, put("b5:50"), "([a1 a2] b [b1 b2] b3 [b3 b4 b5] c [c1 c2])")
	after(t, three, put("b0:50"), "([a1 a2] b [b0 b1] b2 [b2 b3 b4] c [c1 c2])")
	// The node has 2 bytes, 3 with b, and 2 with each other key beside its own; b3, of 64, comes to it.
	wide := func(d, e, f int) laid {
		return func(x *bench) int {
			return x.inner(x.leaf("a1:50", "a2:50"), "b:1", x.leaf("b1:55", "b2:50", "b3:115"),
				fmt.Sprint("d:", d), x.leaf("d1:50", "d2:50"), fmt.Sprint("e:", e), x.leaf("e1:50", "e2:50"),
				fmt.Sprint("f:", f), x.leaf("f1:50", "f2:50"))
		}
	}
	after(t, wide(55, 55, 50), put("b4:40"), "([a1 a2] b [b1 b2] b3 [b3 b4] d [d1 d2] e [e1 e2] f [f1 f2])")     // 237
	after(t, wide(55, 55, 51), put("b4:40"), "(([a1 a2] b [b1 b2] b3 [b3 b4]) d ([d1 d2] e [e1 e2] f [f1 f2]))") // 238: 69 and 110
	after(t, wide(64, 64, 60), put("b4:40"), "(([a1 a2] b [b1 b2] b3 [b3 b4]) d ([d1 d2] e [e1 e2] f [f1 f2]))") // 69 and 128
	after(t, wide(40, 64, 64), put("b4:40"), "(([a1 a2] b [b1 b2] b3 [b3 b4] d [d1 d2]) e ([e1 e2] f [f1 f2]))") // 111 and 66
	after(t, wide(64, 64, 60), put("a0:50"), "([a0 a1 a2] b [b1 b2 b3] d [d1 d2] e [e1 e2] f [f1 f2])")          // a leaf that is not parted
	after(t, under(wide(55, 55, 51)), put("b4:40"), "(([a1 a2] b [b1 b2] b3 [b3 b4]) d ([d1 d2] e [e1 e2] f [f1 f2]) k ([k1 k2] l [l1 l2] m [m1 m2]))")
}

// under is a tree below another node, beside an inner one.
func under(lay laid) laid {
	return func(x *bench) int {
		below := lay(x)
		return x.inner(below, "k:40", x.inner(x.leaf("k1:50", "k2:50"), "l:40", x.leaf("l1:50", "l2:50"), "m:40", x.leaf("m1:50", "m2:50")))
	}
}

// Words: a leaf that becomes Low is joined with the one ahead of it, the first one with the one behind it.
func TestLeavesAreJoined(t *testing.T) {
	lay := func(low string) laid {
		return func(x *bench) int {
			return x.inner(x.leaf("a1:40", low, "a2:40"), "b:1", x.leaf("b1:40", low2(low, "b"), "b2:40"), "c:1", x.leaf("c1:40", low2(low, "c"), "c2:40"))
		}
	}
	// 78 bytes and 1 are left: not Low; 77 and 1: Low.
	after(t, lay("a11:38"), del("a1:40"), "([a11 a2] b [b1 b11 b2] c [c1 c11 c2])")
	after(t, lay("a11:38"), del("b1:40"), "([a1 a11 a2] b [b11 b2] c [c1 c11 c2])")
	after(t, lay("a11:38"), del("c2:40"), "([a1 a11 a2] b [b1 b11 b2] c [c1 c11])")
	after(t, lay("a11:37"), del("a1:40"), "([a11 a2 b1 b11 b2] c [c1 c11 c2])")
	after(t, lay("a11:37"), del("b1:40"), "([a1 a11 a2 b11 b2] c [c1 c11 c2])")
	after(t, lay("a11:37"), del("b2:40"), "([a1 a11 a2 b1 b11] c [c1 c11 c2])")
	after(t, lay("a11:37"), del("c1:40"), "([a1 a11 a2] b [b1 b11 b2 c11 c2])")
	after(t, lay("a11:37"), del("c2:40"), "([a1 a11 a2] b [b1 b11 b2 c1 c11])")
}

// low2 is a key as another one, of another leaf.
func low2(s, leaf string) string { return leaf + s[1:] }

// Words: two that are joined are parted again, if that is too great; the key between them is the one told.
func TestLeavesAreJoinedAndPartedAgain(t *testing.T) {
	lay := func(last string) laid {
		return func(x *bench) int {
			return x.inner(x.leaf("a1:40", "a2:50"), "b:1", x.leaf("b1:50", "b2:50", "b3:50", last), "c:1", x.leaf("c1:40", "c2:50"))
		}
	}
	// 50 bytes beside 186 with 1 more are PageBytes.
	after(t, lay("b4:36"), del("a1:40"), "([a2 b1 b2 b3 b4] c [c1 c2])")
	after(t, lay("b4:37"), del("a1:40"), "([a2 b1] b2 [b2 b3 b4] c [c1 c2])") // 100 and 137, not 150 and 87
	after(t, lay("b4:36"), del("c1:40"), "([a1 a2] b [b1 b2 b3 b4 c2])")
	after(t, lay("b4:37"), del("c1:40"), "([a1 a2] b [b1 b2] b3 [b3 b4 c2])")
	two := func(x *bench) int { return x.inner(x.leaf("a1:40", "a2:50"), "b:1", x.leaf("b1:115", "b2:115")) }
	after(t, two, del("a1:40"), "([a2 b1] b2 [b2])")
}

// Words: a leaf that becomes empty is Low; one key that is left may be, too.
func TestLeavesOfOneKey(t *testing.T) {
	lay := func(x *bench) int {
		return x.inner(x.leaf("a1:100"), "b:1", x.leaf("b1:100"), "c:1", x.leaf("c1:100"))
	}
	after(t, lay, del("a1:100"), "([b1] c [c1])")
	after(t, lay, del("b1:100"), "([a1] c [c1])")
	after(t, lay, del("c1:100"), "([a1] b [b1])")
	after(t, func(x *bench) int { return x.leaf("a1:100", "a2:9") }, del("a1:100"), "[a2]") // the first node has none beside it
	after(t, func(x *bench) int { return x.leaf("a1:100") }, del("a1:100"), "nothing")
	after(t, func(x *bench) int { return x.leaf("a1:9") }, del("a1:9"), "nothing")
}

// Words: what becomes Low by what is put is joined, too.
func TestPutJoins(t *testing.T) {
	lay := func(x *bench) int {
		return x.inner(x.leaf("a1:40", "a2:50"), "b:1", x.leaf("b1:40", "b2:50"), "c:1", x.leaf("c1:40", "c2:50", "c3:50", "c4:50"))
	}
	after(t, lay, put("a2:38"), "([a1 a2] b [b1 b2] c [c1 c2 c3 c4])")
	after(t, lay, put("a2:37"), "([a1 a2 b1 b2] c [c1 c2 c3 c4])")
	after(t, lay, put("b2:37"), "([a1 a2 b1 b2] c [c1 c2 c3 c4])")
	after(t, lay, put("c4:5"), "([a1 a2] b [b1 b2] c [c1 c2 c3 c4])")
}

// Words: a first node of one kid goes.
func TestFirstNodeOfOneKid(t *testing.T) {
	two := func(x *bench) int { return x.inner(x.leaf("a1:40", "a2:50"), "b:1", x.leaf("b1:40", "b2:50")) }
	after(t, two, del("a1:40"), "[a2 b1 b2]")
	after(t, two, del("b2:50"), "[a1 a2 b1]")
	// The inner nodes below it are joined, with the key that was between them.
	four := func(x *bench) int {
		return x.inner(
			x.inner(x.leaf("a1:40", "a2:50"), "b:30", x.leaf("b1:40", "b2:50"), "c:50", x.leaf("c1:40", "c2:50")), "k:30",
			x.inner(x.leaf("k1:40", "k2:50"), "l:30", x.leaf("l1:40", "l2:50"), "m:50", x.leaf("m1:40", "m2:50")))
	}
	after(t, four, del("a1:40"), "([a2 b1 b2] c [c1 c2] k [k1 k2] l [l1 l2] m [m1 m2])")
	after(t, four, del("c2:50"), "([a1 a2] b [b1 b2 c1] k [k1 k2] l [l1 l2] m [m1 m2])")
	after(t, four, del("k1:40"), "([a1 a2] b [b1 b2] c [c1 c2] k [k2 l1 l2] m [m1 m2])")
	after(t, four, del("m1:40"), "([a1 a2] b [b1 b2] c [c1 c2] k [k1 k2] l [l1 l2 m2])")
}

// family is an inner node above leaves, with keys of so many bytes between them.
func family(x *bench, name string, keys []int) int {
	x.Helper()
	parts := []any{x.leaf(name+"01:40", name+"02:50")}
	for at, bytes := range keys {
		leaf := fmt.Sprint(name, at+1)
		parts = append(parts, fmt.Sprint(leaf, ":", bytes), x.leaf(leaf+"1:40", leaf+"2:50"))
	}
	return x.inner(parts...)
}

// families are three of these, with keys of 30 bytes between them.
func families(a, b, c []int) laid {
	return func(x *bench) int {
		return x.inner(family(x, "a", a), "b:30", family(x, "b", b), "c:30", family(x, "c", c))
	}
}

// Words: an inner node that becomes Low is joined with the one ahead of it, the first one with the one behind it, with the key between.
func TestInnerNodesAreJoined(t *testing.T) {
	// Each has 2 bytes, and with each key 2 beside its own: without the key of 20 bytes 79, or 78, which is Low.
	two, enough, low := []int{40, 40}, []int{30, 43, 20}, []int{30, 42, 20}
	a := "[a01 a02] a1 [a11 a12] a2 [a21 a22]"
	b, c := strings.ReplaceAll(a, "a", "b"), strings.ReplaceAll(a, "a", "c")
	al, bl, cl := a[:len(a)-1]+" a32]", b[:len(b)-1]+" b32]", c[:len(c)-1]+" c32]"
	after(t, families(enough, two, two), del("a31:40"), "(("+al+") b ("+b+") c ("+c+"))")
	after(t, families(two, enough, two), del("b31:40"), "(("+a+") b ("+bl+") c ("+c+"))")
	after(t, families(two, two, enough), del("c31:40"), "(("+a+") b ("+b+") c ("+cl+"))")
	after(t, families(low, two, two), del("a31:40"), "(("+al+" b "+b+") c ("+c+"))")
	after(t, families(two, low, two), del("b31:40"), "(("+a+" b "+bl+") c ("+c+"))")
	after(t, families(two, two, low), del("c31:40"), "(("+a+") b ("+b+" c "+cl+"))")
	// One key is never enough.
	one := []int{64, 64}
	after(t, families(two, one, two), del("b21:40"), "(("+a+" b [b01 b02] b1 [b11 b12 b22]) c ("+c+"))")
	after(t, families(two, one, two), del("b01:40"), "(("+a+" b [b02 b11 b12] b2 [b21 b22]) c ("+c+"))")
}

// Words: inner nodes that are joined are parted again, if that is too great; the key at which they are goes above.
func TestInnerNodesAreJoinedAndPartedAgain(t *testing.T) {
	a := "[a01 a02] a1 [a11 a12] a2 [a21 a22]"
	b, c := strings.ReplaceAll(a, "a", "b"), strings.ReplaceAll(a, "a", "c")
	al, bl, cl := a[:len(a)-1]+" a32]", b[:len(b)-1]+" b32]", c[:len(c)-1]+" c32]"
	low := []int{30, 40, 20} // 74 bytes without the last key, beside 32 of the key between, 2 and those of the other one
	fits, over := []int{62, 63}, []int{63, 63}
	after(t, families(fits, low, fits), del("b31:40"), "(("+a+" b "+bl+") c ("+c+"))")
	after(t, families(over, low, over), del("b31:40"), "(([a01 a02] a1 [a11 a12]) a2 ([a21 a22] b "+bl+") c ("+c+"))") // 65 and 106, not 130 and 74
	after(t, families(over, over, low), del("c31:40"), "(("+a+") b ([b01 b02] b1 [b11 b12]) b2 ([b21 b22] c "+cl+"))")
	after(t, families(low, fits, fits), del("a31:40"), "(("+al+" b "+b+") c ("+c+"))")
	after(t, families(low, over, over), del("a31:40"), "(("+al+" b [b01 b02]) b1 ([b11 b12] b2 [b21 b22]) c ("+c+"))") // 106 and 65
}

// Words: a node that takes more bytes only since its kids' pages have greater numbers is parted, too.
func TestGreaterPageNumbers(t *testing.T) {
	for _, kind := range []string{"put", "delete"} {
		for extra := range 3 {
			x := begun(t, 400)
			var parts []any
			for at := range 6 {
				name := string(rune('a' + at))
				if at > 0 {
					parts = append(parts, fmt.Sprint(name, ":", []int{0, 45, 45, 45, 45, 43 + extra}[at]))
				}
				parts = append(parts, x.leaf(name+"1:40", name+"2:50", name+"3:40"))
			}
			x.b = New(x.p, x.inner(parts...))
			x.commits()
			if size := x.bytes(x.b.Root()); size != 235+extra {
				t.Fatalf("%d bytes", size)
			}
			for x.p.Left() > 200 {
				x.p.Add(api.PageChain, "")
				x.others++
			}
			want := x.look().vals
			var key string
			if kind == "put" {
				key = put("c2:45")(x)
				want[key] = valOf("c2:45")
			} else {
				key = del("c2:50")(x)
				delete(want, key)
			}
			pic := x.says(want)
			if deep := 2 + extra/2; pic.deep != deep || pic.root < 128 {
				t.Errorf("%s of %d: depth %d, not %d; page %d", kind, 235+extra, pic.deep, deep, pic.root)
			}
		}
	}
}

// Words: the key between two that are joined and parted again may be longer, so that the node above is parted, when something is taken away.
func TestDeletePartsAbove(t *testing.T) {
	lay := func(last int) laid {
		return func(x *bench) int {
			return x.inner(x.leaf("a1:40", "a2:50"), "b:1", x.leaf("b1:50", "b2:50", "b3:115"),
				"d:55", x.leaf("d1:50", "d2:50"), "e:55", x.leaf("e1:50", "e2:50"), fmt.Sprint("f:", last), x.leaf("f1:50", "f2:50"))
		}
	}
	// a2, b1, b2 and b3 take 265 bytes: parted at b3, whose key has 64.
	after(t, lay(53), del("a1:40"), "([a2 b1 b2] b3 [b3] d [d1 d2] e [e1 e2] f [f1 f2])")     // 2 + 66 + 57 + 57 + 55: 237
	after(t, lay(54), del("a1:40"), "(([a2 b1 b2] b3 [b3]) d ([d1 d2] e [e1 e2] f [f1 f2]))") // 238
}

// kinds is how many bytes keys and what they have take at most, and whether a node may stay Low then.
type kinds struct {
	name      string
	key, data int
	long, low bool
}

func allKinds() []kinds {
	return []kinds{
		{"few", 3, 2, false, false},
		{"some", 36, 36, false, false},
		{"long values", 20, 0, true, false},
		{"many", api.MostKey, api.MostInline, true, true},
		{"most", -api.MostKey, -api.MostInline, false, true},
	}
}

// keyOf is the n-th key: of as many bytes as its number says, the same each time; a limit below zero: all are of so many.
func (k kinds) keyOf(n int) string {
	name := string([]byte{byte(n >> 8), byte(n)})
	if k.key < 0 {
		return name + strings.Repeat("k", -k.key-2)
	}
	return name + strings.Repeat("k", n*31%(k.key-1))
}

func (k kinds) valOf(r *rand.Rand) api.Val {
	if k.data < 0 {
		return data(strings.Repeat("d", -k.data))
	}
	if k.long && r.Intn(2) == 0 {
		return long(r.Intn(api.MostSectors), api.MostInline+1+r.Intn(api.MostValue-api.MostInline))
	}
	return data(strings.Repeat(string(rune('a'+r.Intn(26))), r.Intn(k.data+1)))
}

// orders are orders of so many keys.
func orders(r *rand.Rand, many int) map[string][]int {
	rising := make([]int, many)
	for n := range rising {
		rising[n] = n
	}
	falling := slices.Clone(rising)
	slices.Reverse(falling)
	var inward []int
	for n := range many / 2 {
		inward = append(inward, n, many-1-n)
	}
	return map[string][]int{"rising": rising, "falling": falling, "inward": inward, "mixed": r.Perm(many)}
}

// right holds that a tree has what a map says, and, where items take few enough bytes, that none but its first node is Low.
func (x *bench) right(k kinds, want map[string]api.Val) picture {
	x.Helper()
	pic := x.says(want)
	if pic.low > 0 && !k.low {
		x.Fatalf("%d nodes are Low", pic.low)
	}
	return pic
}

// Words and 10.1: in all orders, of all kinds, put one by one and taken away one by one: to the last key.
func TestOrders(t *testing.T) {
	const many = 160
	for _, k := range allKinds() {
		r := rand.New(rand.NewSource(10))
		for in, puts := range orders(r, many) {
			for out, deletes := range orders(r, many) {
				t.Run(k.name+" "+in+" "+out, func(t *testing.T) {
					x := begun(t, 600)
					want := map[string]api.Val{}
					pic := x.right(k, want)
					for _, n := range puts {
						key, v := k.keyOf(n), k.valOf(r)
						x.adds(key, v)
						want[key] = v
						was := pic
						pic = x.right(k, want)
						x.moved(was, pic, key)
					}
					if pic.deep < 2 || len(pic.keys) != many {
						t.Errorf("depth %d, %d keys", pic.deep, len(pic.keys))
					}
					for n := range many {
						x.has(k.keyOf(n), want[k.keyOf(n)], true)
						x.has(k.keyOf(n)+"!", nothing(), false)
					}
					for _, n := range deletes {
						key := k.keyOf(n)
						x.deletes(key, want[key], true)
						delete(want, key)
						was := pic
						pic = x.right(k, want)
						x.moved(was, pic, key)
					}
					if x.b.Root() != -1 || x.p.Left() != 598 {
						t.Errorf("Root() = %d, %d free", x.b.Root(), x.p.Left())
					}
				})
			}
		}
	}
}

// walk is a tree at random, what it has, and what it had when it was committed.
type walk struct {
	*bench
	k          kinds
	r          *rand.Rand
	want, last map[string]api.Val
	pic        picture
}

// change puts or takes away a key, of more keys or fewer as the walk goes on.
func (w *walk) change(grows bool) {
	key := w.k.keyOf(w.r.Intn(250))
	had, is := of(w.want, key)
	if w.r.Intn(4) == 0 != grows {
		v := w.k.valOf(w.r)
		w.puts(key, v, had, is)
		w.want[key] = v
	} else {
		w.deletes(key, had, is)
		delete(w.want, key)
		if !is {
			if !same(w.pic, w.right(w.k, w.want)) {
				w.Fatal("a key that was not there changed pages")
			}
			return
		}
	}
	was := w.pic
	w.pic = w.right(w.k, w.want)
	w.moved(was, w.pic, key)
}

func (w *walk) step(grows bool) {
	switch w.r.Intn(30) {
	case 0:
		w.commits()
		w.last = maps.Clone(w.want)
	case 1:
		w.undoes()
		w.want = maps.Clone(w.last)
	case 2:
		w.reopens()
		w.want = maps.Clone(w.last)
	case 3, 4, 5:
		key := w.k.keyOf(w.r.Intn(250))
		v, is := of(w.want, key)
		w.has(key, v, is)
	default:
		w.change(grows)
		return
	}
	w.pic = w.right(w.k, w.want)
}

// Words and 10.1: at random, with commits, and with what is taken back.
func TestWalks(t *testing.T) {
	for _, k := range allKinds() {
		for seed := range int64(4) {
			r := rand.New(rand.NewSource(seed))
			w := &walk{bench: begun(t, 900), k: k, r: r, want: map[string]api.Val{}, last: map[string]api.Val{}}
			w.pic = w.right(k, w.want)
			for n := range 1500 {
				w.step(n/500%2 == 0)
			}
		}
	}
}

// R4: the same calls in the same order answer the same, and make the same pages.
func TestSameCalls(t *testing.T) {
	var first []picture
	for round := range 2 {
		r := rand.New(rand.NewSource(3))
		x := begun(t, 400)
		for n := range 300 {
			key := fmt.Sprint(r.Intn(100))
			if r.Intn(3) > 0 {
				x.b.Put(key, data(strings.Repeat("d", r.Intn(49))))
			} else {
				x.b.Delete(key)
			}
			if round == 0 {
				first = append(first, x.look())
			} else if !same(first[n], x.look()) {
				t.Fatalf("call %d made another tree", n)
			}
		}
	}
}
