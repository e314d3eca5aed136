package node

import (
	"encoding/binary"
	"fmt"
	"math"
	"math/rand"
	"reflect"
	"slices"
	"strings"
	"testing"

	"keyway/api"
)

// num is a number as bytes by the words of layer 3 alone.
func num(n int) string { return string(binary.AppendUvarint(nil, uint64(n))) }

// text is a text as bytes by the words of layer 3 alone.
func text(s string) string { return num(len(s)) + s }

// data is what stands in a leaf itself.
func data(s string) api.Val { return api.Val{Data: s, Page: -1} }

// long is so many bytes that begin in a page.
func long(page, many int) api.Val { return api.Val{Page: page, Len: many} }

// none is what a key has that is not there.
var none = api.Val{Page: -1}

// leaf is a leaf whose keys each have themselves.
func leaf(keys ...string) api.Node {
	n := api.Node{Leaf: true, Keys: keys}
	for _, k := range keys {
		n.Vals = append(n.Vals, data(k))
	}
	return n
}

// inner is an inner node whose kids are 10, 11 and so on.
func inner(keys ...string) api.Node {
	n := api.Node{Keys: keys, Kids: []int{10}}
	for range keys {
		n.Kids = append(n.Kids, 10+len(n.Kids))
	}
	return n
}

// same tells whether two nodes are the same, be lists nil or empty.
func same(a, b api.Node) bool {
	return a.Leaf == b.Leaf && slices.Equal(a.Keys, b.Keys) && slices.Equal(a.Vals, b.Vals) && slices.Equal(a.Kids, b.Kids)
}

// zero tells whether a node is the zero value.
func zero(n api.Node) bool { return same(n, api.Node{}) }

// apartFrom is a node that shares no memory with another one.
func apartFrom(n api.Node) api.Node {
	n.Keys, n.Vals, n.Kids = slices.Clone(n.Keys), slices.Clone(n.Vals), slices.Clone(n.Kids)
	return n
}

// stays gives what holds, when it is asked later, that a node is as it was.
func stays(t *testing.T, n api.Node) func() {
	was := apartFrom(n)
	return func() {
		t.Helper()
		if !reflect.DeepEqual(n, was) {
			t.Errorf("what was handed in became %v, was %v", n, was)
		}
	}
}

// form is a node with its bytes, by the words of the chapter alone.
type form struct {
	name  string
	node  api.Node
	bytes string
}

// forms are nodes of each kind, with their bytes.
func forms() []form {
	full := strings.Repeat("d", api.MostInline)
	key := strings.Repeat("k", api.MostKey)
	return []form{
		{"leaf without a key", api.Node{Leaf: true}, "\x00"},
		{"leaf of the example", leafOfPairs("a", data("1")), "\x01\x01a\x00\x011"},
		{"leaf of one key without data", leafOfPairs("a", data("")), "\x01\x01a\x00\x00"},
		{"leaf of the empty key", leafOfPairs("", data("x")), "\x01\x00\x00\x01x"},
		{"leaf of most data", leafOfPairs("a", data(full)), "\x01\x01a\x00\x30" + full},
		{"leaf of a long value", leafOfPairs("a", long(7, 300)), "\x01\x01a\x01\x07\xac\x02"},
		{"leaf of the least long value", leafOfPairs("a", long(0, api.MostInline+1)), "\x01\x01a\x01\x00\x31"},
		{"leaf of the greatest long value", leafOfPairs("a", long(api.MostSectors-1, api.MostValue)), "\x01\x01a\x01\xff\x7f\x80\x80\x04"},
		{"leaf of the longest key", leafOfPairs(key, data("")), "\x01\x40" + key + "\x00\x00"},
		{"leaf of several", leafOfPairs("", data(""), "a", long(2, 49), "a\x00", data("yz"), "b", data("1")),
			"\x04" + "\x00\x00\x00" + "\x01a\x01\x02\x31" + "\x02a\x00\x00\x02yz" + "\x01b\x00\x011"},
		{"inner of one kid", api.Node{Kids: []int{9}}, "\x00\x09"},
		{"inner of kid 0", api.Node{Kids: []int{0}}, "\x00\x00"},
		{"inner of the last kid", api.Node{Kids: []int{api.MostSectors - 1}}, "\x00\xff\x7f"},
		{"inner of two kids", api.Node{Keys: []string{"k"}, Kids: []int{3, 2}}, "\x01\x03\x01k\x02"},
		{"inner of several", api.Node{Keys: []string{"", "b", key}, Kids: []int{300, 5, 4, api.MostSectors - 1}},
			"\x03\xac\x02" + "\x00\x05" + "\x01b\x04" + "\x40" + key + "\xff\x7f"},
	}
}

// leafOfPairs is a leaf of keys, each with what it has behind it.
func leafOfPairs(pairs ...any) api.Node {
	n := api.Node{Leaf: true}
	for at := 0; at < len(pairs); at += 2 {
		n.Keys = append(n.Keys, pairs[at].(string))
		n.Vals = append(n.Vals, pairs[at+1].(api.Val))
	}
	return n
}

func TestPut(t *testing.T) {
	for _, f := range forms() {
		check := stays(t, f.node)
		if got := Put(f.node); got != f.bytes {
			t.Errorf("%s: Put = %x, not %x", f.name, got, f.bytes)
		}
		check()
	}
}

func TestGet(t *testing.T) {
	for _, f := range forms() {
		got, e := Get(f.bytes, f.node.Leaf)
		if e != api.OK || !same(got, f.node) {
			t.Errorf("%s: Get = %v, %d, not %v", f.name, got, e, f.node)
		}
	}
}

// wrong holds that bytes are an error, and that nothing is told beside it.
func wrong(t *testing.T, s string, leaf bool, want api.Errno) {
	t.Helper()
	n, e := Get(s, leaf)
	if e != want || !zero(n) {
		t.Errorf("Get(%x, %v) = %v, %d, not %d", s, leaf, n, e, want)
	}
}

func TestGetBytesThatEndTooEarly(t *testing.T) {
	for _, f := range forms() {
		for most := range len(f.bytes) {
			wrong(t, f.bytes[:most], f.node.Leaf, api.ErrShort)
		}
	}
}

func TestGetBytesBehind(t *testing.T) {
	for _, f := range forms() {
		wrong(t, f.bytes+"\x00", f.node.Leaf, api.ErrMore)
		wrong(t, f.bytes+f.bytes, f.node.Leaf, api.ErrMore)
	}
}

// A leaf's bytes as those of an inner node, and the other way round.
func TestGetOfTheOtherKind(t *testing.T) {
	wrong(t, "\x00", false, api.ErrShort)              // the first kid is missing
	wrong(t, "\x01\x01a\x00\x011", false, api.ErrOver) // a key of 97 bytes
	wrong(t, "\x00\x09", true, api.ErrMore)            // a kid behind no keys
	wrong(t, "\x01\x03\x01k\x02", true, api.ErrShort)  // a key of 3 bytes, and nothing that it has
	n, e := Get("\x01\x02\x00\x00", false)             // as a leaf: a key of two bytes, and nothing that it has
	if e != api.OK || !same(n, api.Node{Keys: []string{""}, Kids: []int{2, 0}}) {
		t.Error(n, e)
	}
	wrong(t, "\x01\x02\x00\x00", true, api.ErrShort)
}

func TestGetTooGreat(t *testing.T) {
	key, full := strings.Repeat("k", api.MostKey+1), strings.Repeat("d", api.MostInline+1)
	for _, c := range []struct {
		leaf  bool
		bytes string
	}{
		{true, num(api.PageBytes + 1)},
		{false, num(api.PageBytes+1) + "\x02"},
		{true, num(1 << 40)},
		{true, "\x01" + text(key) + "\x00\x00"},
		{true, "\x01" + num(len(key))}, // what is missing is behind it
		{false, "\x01\x02" + text(key) + "\x03"},
		{true, "\x01\x01a\x00" + text(full)},
		{true, "\x01\x01a\x00" + num(len(full))},
		{true, "\x01\x01a\x02\x01x"},
		{true, "\x01\x01a\x01" + num(api.MostSectors) + num(49)},
		{true, "\x01\x01a\x01\x02" + num(api.MostValue+1)},
		{false, "\x00" + num(api.MostSectors)},
		{false, "\x01\x02\x01a" + num(api.MostSectors)},
		{false, "\x02\x02\x01a\x03\x01b" + num(api.MostSectors)},
	} {
		wrong(t, c.bytes, c.leaf, api.ErrOver)
	}
}

// manyKeys is so many keys, of two bytes each, rising.
func manyKeys(many int) []string {
	var keys []string
	for n := range many {
		keys = append(keys, string([]byte{byte(n >> 8), byte(n)}))
	}
	return keys
}

func TestGetMostKeys(t *testing.T) {
	for _, n := range []api.Node{leaf(manyKeys(api.PageBytes)...), inner(manyKeys(api.PageBytes)...)} {
		if got, e := Get(Put(n), n.Leaf); e != api.OK || !same(got, n) {
			t.Errorf("Get(Put(%v)) = %v, %d", n, got, e)
		}
	}
	for _, n := range []api.Node{leaf(manyKeys(api.PageBytes + 1)...), inner(manyKeys(api.PageBytes + 1)...)} {
		wrong(t, Put(n), n.Leaf, api.ErrOver)
	}
}

func TestGetNumbersNotInTheirForm(t *testing.T) {
	wrong(t, "\x80\x00", true, api.ErrForm)
	wrong(t, "\x80\x00\x02", false, api.ErrForm)
	wrong(t, "\x00\x82\x00", false, api.ErrForm)
	wrong(t, "\x01\x81\x00a\x00\x00", true, api.ErrForm)
	wrong(t, "\x01\x01a\x80\x00\x00", true, api.ErrForm)
	wrong(t, "\x01\x01a\x00\x80\x00", true, api.ErrForm)
	wrong(t, "\x01\x01a\x01\x82\x00\x31", true, api.ErrForm)
	wrong(t, "\x01\x01a\x01\x02\xb1\x00", true, api.ErrForm)
	wrong(t, strings.Repeat("\xff", 10), true, api.ErrForm)
}

func TestGetKeysThatDoNotRise(t *testing.T) {
	for _, keys := range [][]string{
		{"b", "a"}, {"a", "a"}, {"", ""}, {"a", ""}, {"ab", "a"}, {"a\x00", "a"}, {"\xff", "\x7f"},
		{"a", "c", "b"}, {"a", "b", "b"}, {"b", "a", "c"}, {"a", "a", "b"}, {"a", "b", "a"},
	} {
		for _, n := range []api.Node{leaf(keys...), inner(keys...)} {
			wrong(t, Put(n), n.Leaf, api.ErrForm)
		}
	}
	for _, keys := range [][]string{{"", "\x00"}, {"a", "a\x00"}, {"B", "a"}, {"\x7f", "\x80"}, {"a", "ab", "b"}} {
		for _, n := range []api.Node{leaf(keys...), inner(keys...)} {
			if got, e := Get(Put(n), n.Leaf); e != api.OK || !same(got, n) {
				t.Errorf("Get(Put(%q)) = %v, %d", keys, got, e)
			}
		}
	}
}

func TestGetLenThatIsTooSmall(t *testing.T) {
	for _, many := range []int{0, 1, api.MostInline - 1, api.MostInline} {
		wrong(t, "\x01\x01a\x01\x02"+num(many), true, api.ErrForm)
		wrong(t, "\x03\x01a\x00\x00\x01b\x01\x02"+num(many)+"\x01c\x00\x00", true, api.ErrForm)
		wrong(t, "\x01\x01a\x01\x00"+num(many), true, api.ErrForm) // of page 0, too
	}
}

// The reader's error and what is beyond limits are named ahead of keys that
// do not rise and of a Len that is too small.
func TestGetOfSeveralErrors(t *testing.T) {
	fall, small := "\x02\x01b\x00\x00\x01a\x00\x00", "\x01\x01a\x01\x02\x01"
	wrong(t, fall, true, api.ErrForm)
	wrong(t, fall+"\x00", true, api.ErrMore)
	wrong(t, fall[:len(fall)-1], true, api.ErrShort)
	wrong(t, "\x03"+fall[1:], true, api.ErrShort)
	wrong(t, "\x03"+fall[1:]+"\x41", true, api.ErrOver)
	wrong(t, "\x03"+fall[1:]+"\x01c\x00\x31", true, api.ErrOver)
	wrong(t, small, true, api.ErrForm)
	wrong(t, small+"\x00", true, api.ErrMore)
	wrong(t, "\x02"+small[1:], true, api.ErrShort)
	wrong(t, "\x02"+small[1:]+"\x01b\x02\x00", true, api.ErrOver)
	falls := "\x02\x02\x01b\x03\x01a\x04"
	wrong(t, falls, false, api.ErrForm)
	wrong(t, falls+"\x04", false, api.ErrMore)
	wrong(t, falls[:len(falls)-1], false, api.ErrShort)
	wrong(t, falls[:len(falls)-1]+num(api.MostSectors), false, api.ErrOver)
	// Of the reader's errors, the first one that it meets.
	wrong(t, "\x01\x41", true, api.ErrOver)
	wrong(t, "\x01\x01a\x02", true, api.ErrOver)
	wrong(t, "\x02\x01a\x02\x80\x00", true, api.ErrOver)
	wrong(t, "\x02\x01a\x80\x00\x41", true, api.ErrForm)
}

func TestFind(t *testing.T) {
	keys := []string{"b", "d", "dd", "f"}
	for _, c := range []struct {
		key string
		at  int
		is  bool
	}{
		{"", 0, false}, {"a", 0, false}, {"az", 0, false}, {"b", 0, true}, {"b\x00", 1, false}, {"c", 1, false},
		{"d", 1, true}, {"d\x00", 2, false}, {"dd", 2, true}, {"e", 3, false}, {"f", 3, true}, {"f\x00", 4, false},
		{"g", 4, false}, {"\xff", 4, false},
	} {
		if at, is := Find(keys, c.key); at != c.at || is != c.is {
			t.Errorf("Find(%q, %q) = %d, %v, not %d, %v", keys, c.key, at, is, c.at, c.is)
		}
	}
	for _, none := range [][]string{nil, {}} {
		if at, is := Find(none, "a"); at != 0 || is {
			t.Errorf("Find of no keys = %d, %v", at, is)
		}
		if at, is := Find(none, ""); at != 0 || is {
			t.Errorf("Find of no keys, of the empty one = %d, %v", at, is)
		}
	}
	if at, is := Find([]string{"", "a"}, ""); at != 0 || !is {
		t.Errorf("Find of the empty key = %d, %v", at, is)
	}
	if !slices.Equal(keys, []string{"b", "d", "dd", "f"}) {
		t.Errorf("keys became %q", keys)
	}
}

func TestKid(t *testing.T) {
	n := api.Node{Keys: []string{"b", "d", "f"}, Kids: []int{40, 7, 30, 9}}
	check := stays(t, n)
	for _, c := range []struct {
		key  string
		page int
	}{
		{"", 40}, {"a", 40}, {"az", 40}, {"b", 7}, {"b\x00", 7}, {"c", 7}, {"d", 30}, {"e", 30}, {"f", 9}, {"g", 9}, {"\xff", 9},
	} {
		if got := Kid(n, c.key); got != c.page {
			t.Errorf("Kid(%q) = %d, not %d", c.key, got, c.page)
		}
	}
	check()
	if got := Kid(api.Node{Kids: []int{8}}, "a"); got != 8 {
		t.Errorf("Kid of one kid = %d", got)
	}
}

func TestSetOfAKeyThatIsNotThere(t *testing.T) {
	n := leaf("b", "d", "f")
	for _, c := range []struct {
		key  string
		keys []string
		at   int
	}{
		{"", []string{"", "b", "d", "f"}, 0}, {"a", []string{"a", "b", "d", "f"}, 0}, {"c", []string{"b", "c", "d", "f"}, 1},
		{"e", []string{"b", "d", "e", "f"}, 2}, {"g", []string{"b", "d", "f", "g"}, 3},
	} {
		for _, v := range []api.Val{data("new"), data(""), long(5, 99)} {
			want := leaf(c.keys...)
			want.Vals[c.at] = v
			check := stays(t, n)
			got, had, is := Set(n, c.key, v)
			if !same(got, want) || had != none || is {
				t.Errorf("Set(%q, %v) = %v, %v, %v", c.key, v, got, had, is)
			}
			check()
		}
	}
	got, had, is := Set(api.Node{Leaf: true}, "a", data("1"))
	if !same(got, leafOfPairs("a", data("1"))) || had != none || is {
		t.Errorf("Set in a leaf without a key = %v, %v, %v", got, had, is)
	}
}

func TestSetOfAKeyThatIsThere(t *testing.T) {
	n := leafOfPairs("b", data("1"), "d", long(4, 100), "f", data(""))
	for at, key := range n.Keys {
		for _, v := range []api.Val{data("new"), data(""), long(5, 99), n.Vals[at]} {
			want := apartFrom(n)
			want.Vals[at] = v
			check := stays(t, n)
			got, had, is := Set(n, key, v)
			if !same(got, want) || had != n.Vals[at] || !is {
				t.Errorf("Set(%q, %v) = %v, %v, %v", key, v, got, had, is)
			}
			check()
		}
	}
}

func TestUnset(t *testing.T) {
	n := leafOfPairs("b", data("1"), "d", long(4, 100), "f", data(""))
	for at, key := range n.Keys {
		want := apartFrom(n)
		want.Keys = slices.Delete(want.Keys, at, at+1)
		want.Vals = slices.Delete(want.Vals, at, at+1)
		check := stays(t, n)
		got, had, is := Unset(n, key)
		if !same(got, want) || had != n.Vals[at] || !is {
			t.Errorf("Unset(%q) = %v, %v, %v", key, got, had, is)
		}
		check()
	}
	for _, key := range []string{"", "a", "c", "e", "g"} {
		check := stays(t, n)
		got, had, is := Unset(n, key)
		if !same(got, n) || had != none || is {
			t.Errorf("Unset(%q) = %v, %v, %v", key, got, had, is)
		}
		spoil(got)
		check()
	}
	if got, had, is := Unset(leaf("a"), "a"); !same(got, api.Node{Leaf: true}) || had != data("a") || !is {
		t.Errorf("Unset of the only key = %v, %v, %v", got, had, is)
	}
	if got, had, is := Unset(api.Node{Leaf: true}, "a"); !same(got, api.Node{Leaf: true}) || had != none || is {
		t.Errorf("Unset in a leaf without a key = %v, %v, %v", got, had, is)
	}
}

// spoil changes all that a node has, and what stands behind it in the same memory.
func spoil(n api.Node) {
	keys, vals, kids := n.Keys[:cap(n.Keys)], n.Vals[:cap(n.Vals)], n.Kids[:cap(n.Kids)]
	for at := range keys {
		keys[at] = "spoilt"
	}
	for at := range vals {
		vals[at] = api.Val{Data: "spoilt", Page: -7, Len: -7}
	}
	for at := range kids {
		kids[at] = -7
	}
}

func TestCopy(t *testing.T) {
	for _, f := range forms() {
		was := apartFrom(f.node)
		own := Copy(f.node)
		if !same(own, was) {
			t.Errorf("%s: Copy = %v", f.name, own)
		}
		spoil(own)
		if !same(f.node, was) {
			t.Errorf("%s: what was done to a copy was done to it: %v", f.name, f.node)
		}
		own = Copy(f.node)
		spoil(f.node)
		if !same(own, was) {
			t.Errorf("%s: what was done to it was done to a copy: %v", f.name, own)
		}
	}
}

// What is answered shares no memory with what is handed in.
func TestAnswersAreTheCallersOwn(t *testing.T) {
	roomy := func(n api.Node) api.Node { // with memory behind each list, so that an append would write there
		n.Keys = slices.Grow(slices.Clone(n.Keys), 8)
		n.Vals = slices.Grow(slices.Clone(n.Vals), 8)
		n.Kids = slices.Grow(slices.Clone(n.Kids), 8)
		return n
	}
	a, b := roomy(leaf("a", "c")), roomy(leaf("e", "g"))
	c, d := roomy(inner("a", "c")), roomy(inner("e", "g"))
	big, wide := roomy(leaf(manyKeys(99)...)), roomy(inner(manyKeys(99)...))
	all := []api.Node{a, b, c, d, big, wide}
	var checks []func()
	for _, n := range all {
		checks = append(checks, stays(t, n))
	}
	for _, answer := range []func() []api.Node{
		func() []api.Node { n, _, _ := Set(a, "b", none); return []api.Node{n} },
		func() []api.Node { n, _, _ := Set(a, "d", none); return []api.Node{n} },
		func() []api.Node { n, _, _ := Set(a, "a", none); return []api.Node{n} },
		func() []api.Node { n, _, _ := Unset(a, "a"); return []api.Node{n} },
		func() []api.Node { n, _, _ := Unset(a, "b"); return []api.Node{n} },
		func() []api.Node { l, _ := Part(a); return l },
		func() []api.Node { l, _ := Part(c); return l },
		func() []api.Node { l, _ := Part(big); return l },
		func() []api.Node { l, _ := Part(wide); return l },
		func() []api.Node { return []api.Node{Join(a, "e", b)} },
		func() []api.Node { return []api.Node{Join(c, "d", d)} },
		func() []api.Node { return []api.Node{Join(a, "e", api.Node{Leaf: true})} },
		func() []api.Node { return []api.Node{Join(api.Node{Leaf: true}, "e", b)} },
	} {
		nodes := answer()
		for at, n := range nodes {
			rest := slices.Delete(slices.Clone(nodes), at, at+1)
			var others []func()
			for _, m := range rest {
				others = append(others, stays(t, m))
			}
			spoil(n)
			for _, check := range append(others, checks...) {
				check()
			}
		}
	}
}

// weights are the bytes of each key with what it has, or with the kid behind it, by the words of the chapter alone.
func weights(n api.Node) []int {
	var l []int
	for at, k := range n.Keys {
		w := len(text(k))
		switch {
		case !n.Leaf:
			w += len(num(n.Kids[at+1]))
		case n.Vals[at].Page < 0:
			w += 1 + len(text(n.Vals[at].Data))
		default:
			w += 1 + len(num(n.Vals[at].Page)) + len(num(n.Vals[at].Len))
		}
		l = append(l, w)
	}
	return l
}

func sum(l []int) int {
	s := 0
	for _, n := range l {
		s += n
	}
	return s
}

// bytesOf is how many bytes a node takes, by the words of the chapter alone.
func bytesOf(n api.Node) int {
	many := len(num(len(n.Keys))) + sum(weights(n))
	if !n.Leaf {
		many += len(num(n.Kids[0]))
	}
	return many
}

// parted is a node's parts and the key told, found by trying each place.
func parted(n api.Node) ([]api.Node, string) {
	if bytesOf(n) <= 237 {
		return []api.Node{n}, ""
	}
	w := weights(n)
	var parts []api.Node
	told, least := "", math.MaxInt
	for at := range n.Keys {
		if n.Leaf && at == 0 { // behind no key
			continue
		}
		a := api.Node{Leaf: true, Keys: n.Keys[:at]}
		b := api.Node{Leaf: true, Keys: n.Keys[at:]}
		greater := max(sum(w[:at]), sum(w[at:]))
		if n.Leaf {
			a.Vals, b.Vals = n.Vals[:at], n.Vals[at:]
		} else {
			a = api.Node{Keys: n.Keys[:at], Kids: n.Kids[:at+1]}
			b = api.Node{Keys: n.Keys[at+1:], Kids: n.Kids[at+1:]}
			greater = max(sum(w[:at]), sum(w[at+1:]))
		}
		if greater < least {
			parts, told, least = []api.Node{a, b}, n.Keys[at], greater
		}
	}
	return parts, told
}

// parts holds that a node is parted as the chapter says, and that the parts are all of it.
func parts(t *testing.T, n api.Node) ([]api.Node, string) {
	t.Helper()
	check := stays(t, n)
	got, key := Part(n)
	check()
	want, told := parted(n)
	if len(got) != len(want) || key != told {
		t.Fatalf("Part(%v) = %v, %q, not %v, %q", n, got, key, want, told)
	}
	for at := range got {
		if !same(got[at], want[at]) {
			t.Errorf("Part(%v)[%d] = %v, not %v", n, at, got[at], want[at])
		}
	}
	if len(got) == 2 {
		if again := Join(got[0], key, got[1]); !same(again, n) {
			t.Errorf("%v, parted and joined, is %v", n, again)
		}
	}
	return got, key
}

// keyOf is a key of so many bytes, that stands behind those of lower numbers.
func keyOf(n, bytes int) string {
	return string([]byte{byte(n)}) + strings.Repeat("k", bytes-1)
}

// leafOfBytes is a leaf whose keys take so many bytes each, with what they have (4 at least, 52 at most).
func leafOfBytes(bytes ...int) api.Node {
	n := api.Node{Leaf: true}
	for at, b := range bytes {
		n.Keys = append(n.Keys, keyOf(at, 1))
		n.Vals = append(n.Vals, data(strings.Repeat("d", b-4)))
	}
	return n
}

// innerOfBytes is an inner node whose keys take so many bytes each, with the kid behind them (3 at least, 66 at most).
func innerOfBytes(bytes ...int) api.Node {
	n := api.Node{Kids: []int{2}}
	for at, b := range bytes {
		n.Keys = append(n.Keys, keyOf(at, b-2))
		n.Kids = append(n.Kids, 3+at)
	}
	return n
}

// times is so many of a number.
func times(many, n int) []int { return slices.Repeat([]int{n}, many) }

func TestPartOfPageBytes(t *testing.T) {
	// 1 byte says how many keys, of an inner node 1 more the first kid.
	for _, n := range []api.Node{
		leafOfBytes(40, 40, 40, 40, 40, 36), leafOfBytes(append(times(9, 25), 11)...),
		innerOfBytes(50, 50, 50, 50, 35), innerOfBytes(append(times(46, 5), 5)...),
		leafOfBytes(), leafOfBytes(9), innerOfBytes(), innerOfBytes(9),
	} {
		if len(n.Keys) > 2 && len(Put(n)) != api.PageBytes {
			t.Fatalf("%v takes %d bytes", n, len(Put(n)))
		}
		if l, key := parts(t, n); len(l) != 1 || key != "" || !same(l[0], n) {
			t.Errorf("Part(%v) = %v, %q", n, l, key)
		}
	}
	for _, n := range []api.Node{
		leafOfBytes(40, 40, 40, 40, 40, 37), leafOfBytes(append(times(9, 25), 12)...),
		innerOfBytes(50, 50, 50, 50, 36), innerOfBytes(append(times(46, 5), 6)...),
	} {
		if len(Put(n)) != api.PageBytes+1 {
			t.Fatalf("%v takes %d bytes", n, len(Put(n)))
		}
		if l, _ := parts(t, n); len(l) != 2 {
			t.Errorf("Part(%v) = %v", n, l)
		}
	}
}

// cutAt holds at which key a node is parted.
func cutAt(t *testing.T, n api.Node, at int) {
	t.Helper()
	if _, key := parts(t, n); key != n.Keys[at] {
		t.Errorf("Part of %v (%v) tells key %d, not %d", weights(n), n.Leaf, slices.Index(n.Keys, key), at)
	}
}

func TestPartOfLeaves(t *testing.T) {
	cutAt(t, leafOfBytes(times(6, 40)...), 3)
	cutAt(t, leafOfBytes(times(48, 5)...), 24)
	cutAt(t, leafOfBytes(times(7, 40)...), 3)                               // 120 and 160, as good as 160 and 120
	cutAt(t, leafOfBytes(50, 40, 40, 40, 40, 40), 3)                        // 130 and 120
	cutAt(t, leafOfBytes(40, 40, 40, 40, 40, 50), 3)                        // 120 and 130
	cutAt(t, leafOfBytes(50, 50, 50, 50, 50, 10, 10, 10), 3)                // 150 and 130, not 100 and 180
	cutAt(t, leafOfBytes(10, 10, 10, 10, 50, 50, 50, 50), 6)                // 140 and 100, not 90 and 150
	cutAt(t, leafOfBytes(append(times(20, 5), 52, 52, 52)...), 21)          // 152 and 104, not 100 and 156
	cutAt(t, leafOfBytes(append([]int{52, 52, 52}, times(20, 5)...)...), 2) // 104 and 152, not 156 and 100
	cutAt(t, leafOfBytes(20, 20, 20, 20, 52, 20, 20, 20, 20, 30), 5)        // the greatest one in the midst
}

func TestPartOfInnerNodes(t *testing.T) {
	cutAt(t, innerOfBytes(times(6, 40)...), 2) // 80 and 120, as good as 120 and 80
	cutAt(t, innerOfBytes(times(5, 60)...), 2) // 120 and 120
	cutAt(t, innerOfBytes(times(60, 5)...), 29)
	cutAt(t, innerOfBytes(66, 66, 66, 10, 10, 10, 10, 10), 1)                        // 66 and 116
	cutAt(t, innerOfBytes(10, 10, 10, 10, 10, 66, 66, 66), 6)                        // 116 and 66
	cutAt(t, innerOfBytes(append(times(21, 5), 66, 66)...), 21)                      // 105 and 66, not 100 and 132
	cutAt(t, innerOfBytes(append([]int{66, 66}, times(30, 5)...)...), 3)             // 137 and 140
	cutAt(t, innerOfBytes(20, 20, 20, 20, 20, 66, 20, 20, 20, 20, 20), 5)            // 100 and 100
	cutAt(t, innerOfBytes(append(append(times(20, 5), 66), times(20, 5)...)...), 20) // the greatest one in the midst goes
	cutAt(t, innerOfBytes(append(append(times(18, 5), 66), times(24, 5)...)...), 18) // 90 and 120
}

// What is apart counts by its own bytes, not by those that are elsewhere.
func TestPartOfLeavesWithLongValues(t *testing.T) {
	n := api.Node{Leaf: true}
	for at := range 40 {
		n.Keys = append(n.Keys, keyOf(at, 1))
		n.Vals = append(n.Vals, long(at*400, 60000))
	}
	parts(t, n)
	n.Vals[3] = data(strings.Repeat("d", api.MostInline))
	n.Vals[30] = long(1, 49)
	parts(t, n)
}

// random is a node of as many keys, of as many bytes, as chance has it.
func random(r *rand.Rand) api.Node {
	n := api.Node{Leaf: r.Intn(2) == 0}
	most := 1 + r.Intn(api.MostKey-3)
	if !n.Leaf {
		n.Kids = []int{r.Intn(api.MostSectors)}
	}
	for at := range r.Intn(60) {
		n.Keys = append(n.Keys, fmt.Sprintf("%02d", at)+strings.Repeat("x", r.Intn(most)))
		if !n.Leaf {
			n.Kids = append(n.Kids, r.Intn(api.MostSectors))
		} else if r.Intn(4) == 0 {
			n.Vals = append(n.Vals, long(r.Intn(api.MostSectors), api.MostInline+1+r.Intn(api.MostValue-api.MostInline)))
		} else {
			n.Vals = append(n.Vals, data(strings.Repeat("d", r.Intn(api.MostInline+1))))
		}
	}
	return n
}

func TestNodesOfAllKinds(t *testing.T) {
	r := rand.New(rand.NewSource(9))
	for range 3000 {
		n := random(r)
		s := Put(n)
		if len(s) != bytesOf(n) {
			t.Fatalf("%v takes %d bytes, not %d", n, len(s), bytesOf(n))
		}
		if got, e := Get(s, n.Leaf); e != api.OK || !same(got, n) {
			t.Fatalf("Get(Put(%v)) = %v, %d", n, got, e)
		}
		if Low(n) != (len(s) < 79) {
			t.Fatalf("Low(%v) = %v, of %d bytes", n, Low(n), len(s))
		}
		parts(t, n)
	}
}

// A leaf that grows by one key, whatever it takes, is parted in two that a page has room for.
func TestPartsFitInPages(t *testing.T) {
	r := rand.New(rand.NewSource(10))
	for range 300 {
		n := api.Node{Leaf: true}
		for len(Put(n)) <= api.PageBytes {
			key := fmt.Sprint(r.Intn(1000)) + strings.Repeat("x", r.Intn(api.MostKey-3))
			n, _, _ = Set(n, key, data(strings.Repeat("d", r.Intn(api.MostInline+1))))
		}
		l, key := parts(t, n)
		for _, part := range l {
			if len(Put(part)) > api.PageBytes || len(part.Keys) == 0 {
				t.Errorf("%v is a part of %d bytes", part, len(Put(part)))
			}
		}
		if key != l[1].Keys[0] {
			t.Errorf("the key told is %q, not %q", key, l[1].Keys[0])
		}
	}
}

func TestJoin(t *testing.T) {
	for _, c := range []struct {
		a    api.Node
		key  string
		b    api.Node
		want api.Node
	}{
		{leaf("a", "b"), "c", leaf("c", "d"), leaf("a", "b", "c", "d")},
		{leaf("a"), "b", leaf("c", "d"), leaf("a", "c", "d")},
		{leaf("a"), "", leaf("b"), leaf("a", "b")},
		{leaf(), "c", leaf("c"), leaf("c")},
		{leaf("c"), "d", leaf(), leaf("c")},
		{leaf(), "d", leaf(), leaf()},
		{leafOfPairs("a", long(3, 70)), "b", leafOfPairs("b", data("")), leafOfPairs("a", long(3, 70), "b", data(""))},
		{api.Node{Keys: []string{"a"}, Kids: []int{5, 4}}, "c", api.Node{Keys: []string{"d"}, Kids: []int{9, 7}},
			api.Node{Keys: []string{"a", "c", "d"}, Kids: []int{5, 4, 9, 7}}},
		{api.Node{Kids: []int{5}}, "c", api.Node{Keys: []string{"d"}, Kids: []int{9, 7}},
			api.Node{Keys: []string{"c", "d"}, Kids: []int{5, 9, 7}}},
		{api.Node{Keys: []string{"a"}, Kids: []int{5, 4}}, "c", api.Node{Kids: []int{9}},
			api.Node{Keys: []string{"a", "c"}, Kids: []int{5, 4, 9}}},
		{api.Node{Kids: []int{5}}, "c", api.Node{Kids: []int{9}}, api.Node{Keys: []string{"c"}, Kids: []int{5, 9}}},
		{api.Node{Kids: []int{5}}, "", api.Node{Kids: []int{9}}, api.Node{Keys: []string{""}, Kids: []int{5, 9}}},
	} {
		checks := []func(){stays(t, c.a), stays(t, c.b)}
		if got := Join(c.a, c.key, c.b); !same(got, c.want) {
			t.Errorf("Join(%v, %q, %v) = %v, not %v", c.a, c.key, c.b, got, c.want)
		}
		for _, check := range checks {
			check()
		}
	}
}

func TestLow(t *testing.T) {
	if api.LowNode != 79 {
		t.Fatalf("LowNode = %d", api.LowNode)
	}
	for _, c := range []struct {
		node  api.Node
		bytes int
		low   bool
	}{
		{leafOfBytes(), 1, true}, {innerOfBytes(), 2, true},
		{leafOfBytes(40, 37), 78, true}, {leafOfBytes(40, 38), 79, false}, {leafOfBytes(40, 39), 80, false},
		{innerOfBytes(40, 36), 78, true}, {innerOfBytes(40, 37), 79, false}, {innerOfBytes(40, 38), 80, false},
		{leafOfBytes(times(6, 40)...), 241, false}, {innerOfBytes(times(6, 40)...), 242, false},
	} {
		check := stays(t, c.node)
		if many := len(Put(c.node)); many != c.bytes {
			t.Fatalf("%v takes %d bytes, not %d", c.node, many, c.bytes)
		}
		if got := Low(c.node); got != c.low {
			t.Errorf("Low of %d bytes = %v", c.bytes, got)
		}
		check()
	}
}

// What is no node ends no call but by an answer.
func TestNodesThatAreNone(t *testing.T) {
	huge := strings.Repeat("h", 500)
	for _, n := range []api.Node{
		{}, {Leaf: true, Keys: []string{"a", "b"}}, {Keys: []string{"a", "b"}}, {Keys: []string{"a"}, Vals: []api.Val{none}},
		{Leaf: true, Keys: []string{"a"}, Vals: make([]api.Val, 3)}, {Leaf: true, Vals: make([]api.Val, 3), Kids: []int{1}},
		{Keys: []string{"a"}, Kids: []int{1, 2, 3}}, {Keys: []string{"a"}, Kids: []int{-1, math.MinInt}},
		{Leaf: true, Keys: []string{huge}}, {Keys: []string{huge}}, {Leaf: true, Keys: []string{huge, "b", huge}},
		{Keys: []string{huge, huge}, Kids: []int{1}}, {Leaf: true, Keys: []string{"a"}, Vals: []api.Val{long(math.MaxInt, math.MinInt)}},
		leaf(manyKeys(400)...), inner(manyKeys(400)...), {Leaf: true, Keys: manyKeys(400)}, {Keys: manyKeys(400)},
	} {
		check := stays(t, n)
		s := Put(n)
		Get(s, n.Leaf)
		Get(s, !n.Leaf)
		Low(n)
		Copy(n)
		for _, key := range []string{"", "a", "b", huge} {
			Kid(n, key)
			if m, had, is := Set(n, key, data("x")); !m.Leaf || len(m.Keys) != len(m.Vals) || !is && had != none {
				t.Errorf("Set(%v, %q) = %v, %v, %v", n, key, m, had, is)
			}
			if m, had, is := Unset(n, key); !m.Leaf || len(m.Keys) != len(m.Vals) || !is && had != none {
				t.Errorf("Unset(%v, %q) = %v, %v, %v", n, key, m, had, is)
			}
		}
		if l, _ := Part(n); len(l) != 1 && len(l) != 2 {
			t.Errorf("Part(%v) = %v", n, l)
		}
		Join(n, "k", leaf("z"))
		Join(leaf("z"), "k", n)
		Join(n, "k", inner("z"))
		Join(inner("z"), "k", n)
		check()
	}
	if got := Kid(api.Node{}, "a"); got != -1 {
		t.Errorf("Kid of no kids = %d", got)
	}
	if got := Kid(api.Node{Keys: []string{"a"}, Kids: []int{3}}, "b"); got != -1 {
		t.Errorf("Kid of a kid that is missing = %d", got)
	}
	if l, key := Part(api.Node{Leaf: true, Keys: []string{huge}}); len(l) != 1 || key != "" {
		t.Errorf("Part of a leaf of one key = %v, %q", l, key)
	}
	if l, key := Part(api.Node{Keys: []string{huge}, Kids: []int{4, 5}}); len(l) != 2 || key != huge ||
		!same(l[0], api.Node{Kids: []int{4}}) || !same(l[1], api.Node{Kids: []int{5}}) {
		t.Errorf("Part of an inner node of one key = %v, %q", l, key)
	}
	if m, had, is := Unset(api.Node{Leaf: true, Keys: []string{"a"}}, "a"); !same(m, api.Node{Leaf: true}) || had != none || !is {
		t.Errorf("Unset of a key without anything = %v, %v, %v", m, had, is)
	}
}

func TestGetOfAnyBytes(t *testing.T) {
	r := rand.New(rand.NewSource(11))
	for range 20000 {
		b := make([]byte, r.Intn(12))
		for at := range b {
			b[at] = byte(r.Intn(5))
			if r.Intn(20) == 0 {
				b[at] = byte(r.Intn(256))
			}
		}
		s, leaf := string(b), r.Intn(2) == 0
		n, e := Get(s, leaf)
		if e == api.OK && (Put(n) != s || n.Leaf != leaf) || e != api.OK && !zero(n) {
			t.Fatalf("Get(%x, %v) = %v, %d", s, leaf, n, e)
		}
		if again, f := Get(s, leaf); f != e || !same(again, n) {
			t.Fatalf("Get(%x, %v) = %v, %d, then %v, %d", s, leaf, n, e, again, f)
		}
	}
}
