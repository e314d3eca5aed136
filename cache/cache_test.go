package cache

import (
	"fmt"
	"maps"
	"math"
	"math/rand"
	"slices"
	"strings"
	"testing"

	"keyway/api"
	"keyway/disk"
	"keyway/store"
)

// below is keys and texts in a map, that keeps what was asked of it.
// Asking fails, and the ones behind it if it goes on so, are errors: nothing is done then, and other things than nothing stand beside them.
type below struct {
	texts map[string]string
	asked []string
	fails int // which asking, from 0 on
	on    bool
	err   api.Errno
}

const never = -1

// over is what lies below, of keys and texts by turns.
func over(pairs ...string) *below {
	m := &below{texts: map[string]string{}, fails: never}
	for at := 0; at < len(pairs); at += 2 {
		m.texts[pairs[at]] = pairs[at+1]
	}
	return m
}

func (m *below) ask(what string) api.Errno {
	m.asked = append(m.asked, what)
	if now := len(m.asked) - 1; m.fails != never && (now == m.fails || m.on && now > m.fails) {
		return m.err
	}
	return api.OK
}

func (m *below) Get(key string) (string, bool, api.Errno) {
	if e := m.ask("get " + key); e != api.OK {
		return "wrong", true, e
	}
	text, is := m.texts[key]
	return text, is, api.OK
}

func (m *below) Put(key, text string) api.Errno {
	if e := m.ask("put " + key + " " + text); e != api.OK {
		return e
	}
	m.texts[key] = text
	return api.OK
}

func (m *below) Delete(key string) (bool, api.Errno) {
	if e := m.ask("delete " + key); e != api.OK {
		return true, e
	}
	_, is := m.texts[key]
	delete(m.texts, key)
	return is, api.OK
}

// asked holds what was asked below since it was held last.
func asked(t *testing.T, m *below, want ...string) {
	t.Helper()
	if !slices.Equal(m.asked, want) {
		t.Errorf("below was asked %q; not %q", m.asked, want)
	}
	m.asked = nil
}

// get holds what a key has.
func get(t *testing.T, c *Cache, key, want string) {
	t.Helper()
	if text, is, e := c.Get(key); text != want || !is || e != api.OK {
		t.Errorf("Get(%q) = %q, %t, %d; not %q", key, text, is, e, want)
	}
}

// none holds that a key has nothing.
func none(t *testing.T, c *Cache, key string) {
	t.Helper()
	if text, is, e := c.Get(key); text != "" || is || e != api.OK {
		t.Errorf("Get(%q) = %q, %t, %d; not nothing", key, text, is, e)
	}
}

// put lets keys have texts, by turns.
func put(t *testing.T, c *Cache, pairs ...string) {
	t.Helper()
	for at := 0; at < len(pairs); at += 2 {
		if e := c.Put(pairs[at], pairs[at+1]); e != api.OK {
			t.Errorf("Put(%q, %q) = %d", pairs[at], pairs[at+1], e)
		}
	}
}

// remove holds whether a key was there that is taken away.
func remove(t *testing.T, c *Cache, key string, want bool) {
	t.Helper()
	if is, e := c.Delete(key); is != want || e != api.OK {
		t.Errorf("Delete(%q) = %t, %d; not %t", key, is, e, want)
	}
}

// written lets all be written below.
func written(t *testing.T, c *Cache) {
	t.Helper()
	if e := c.Sync(); e != api.OK {
		t.Errorf("Sync() = %d", e)
	}
}

// held holds how many are held.
func held(t *testing.T, c *Cache, want int) {
	t.Helper()
	if got := c.Held(); got != want {
		t.Errorf("Held() = %d; not %d", got, want)
	}
}

// cost holds how often was read and written below.
func cost(t *testing.T, c *Cache, reads, writes int) {
	t.Helper()
	if r, w := c.Cost(); r != reads || w != writes {
		t.Errorf("Cost() = %d, %d; not %d, %d", r, w, reads, writes)
	}
}

// The chapter's example.
func TestExample(t *testing.T) {
	m := over()
	c := New(m, 1)
	put(t, c, "a", "1")
	asked(t, m)
	put(t, c, "b", "2")
	asked(t, m, "put a 1")
	if !maps.Equal(m.texts, map[string]string{"a": "1"}) {
		t.Errorf("below stands %q", m.texts)
	}
	get(t, c, "b", "2")
	held(t, c, 1)
	written(t, c)
	asked(t, m, "put b 2")
	get(t, c, "b", "2")
	get(t, c, "a", "1")
	asked(t, m, "get a")
	cost(t, c, 1, 2)
}

// 16.1: a cache of which nothing was asked holds nothing, and asked nothing below.
func TestNew(t *testing.T) {
	m := over("a", "1")
	c := New(m, 3)
	held(t, c, 0)
	cost(t, c, 0, 0)
	written(t, c)
	asked(t, m)
	held(t, c, 0)
	cost(t, c, 0, 0)
}

// 16.1: Get is what stands below; it is read there once, while it is held, also where nothing stands.
func TestGet(t *testing.T) {
	m := over("a", "1", "empty", "", "", "of no key")
	c := New(m, 9)
	for range 3 {
		get(t, c, "a", "1")
		get(t, c, "empty", "")
		get(t, c, "", "of no key")
		none(t, c, "b")
	}
	asked(t, m, "get a", "get empty", "get ", "get b")
	held(t, c, 4)
	cost(t, c, 4, 0)
	written(t, c)
	asked(t, m)
}

// 16.1: what Put lets a key have is what Get tells, ahead of being written and behind it; nothing is read for it.
func TestPut(t *testing.T) {
	m := over("a", "old", "b", "old")
	c := New(m, 9)
	get(t, c, "b", "old")
	put(t, c, "a", "1", "b", "2", "c", "3", "d", "", "", "4")
	asked(t, m, "get b")
	held(t, c, 5)
	cost(t, c, 1, 0)
	for range 2 {
		get(t, c, "a", "1")
		get(t, c, "b", "2")
		get(t, c, "c", "3")
		get(t, c, "d", "")
		get(t, c, "", "4")
		written(t, c)
	}
	asked(t, m, "put  4", "put a 1", "put b 2", "put c 3", "put d ")
	held(t, c, 5)
	cost(t, c, 1, 5)
}

// 16.1: of what was changed more than once the last is written, once; what is changed behind that is written anew.
func TestPutAgain(t *testing.T) {
	m := over()
	c := New(m, 9)
	put(t, c, "a", "1", "a", "2", "a", "3")
	get(t, c, "a", "3")
	held(t, c, 1)
	written(t, c)
	asked(t, m, "put a 3")
	put(t, c, "a", "4")
	asked(t, m)
	get(t, c, "a", "4")
	written(t, c)
	asked(t, m, "put a 4")
	put(t, c, "a", "4")
	written(t, c)
	asked(t, m, "put a 4")
	written(t, c)
	asked(t, m)
	cost(t, c, 0, 3)
}

// 16.1: Delete tells whether a key was there, be it held or below; below it is taken away when it is written.
func TestDelete(t *testing.T) {
	m := over("a", "1", "b", "2", "c", "3")
	c := New(m, 9)
	remove(t, c, "a", true)
	asked(t, m, "get a")
	get(t, c, "b", "2")
	remove(t, c, "b", true)
	put(t, c, "c", "4", "d", "5")
	remove(t, c, "c", true)
	remove(t, c, "d", true)
	remove(t, c, "none", false)
	asked(t, m, "get b", "get none")
	for _, key := range []string{"a", "b", "c", "d", "none"} {
		none(t, c, key)
		remove(t, c, key, false)
	}
	asked(t, m)
	held(t, c, 5)
	cost(t, c, 3, 0)
	written(t, c)
	asked(t, m, "delete a", "delete b", "delete c", "delete d")
	if len(m.texts) != 0 {
		t.Errorf("below stands %q", m.texts)
	}
	for _, key := range []string{"a", "b", "c", "d", "none"} {
		none(t, c, key)
		remove(t, c, key, false)
	}
	written(t, c)
	asked(t, m)
	held(t, c, 5)
	cost(t, c, 3, 4)
}

// 16.1: a key that was taken away may have a text again; what is written is the last of it.
func TestPutOfWhatWasDeleted(t *testing.T) {
	m := over("a", "1", "b", "2")
	c := New(m, 9)
	remove(t, c, "a", true)
	put(t, c, "a", "3")
	get(t, c, "a", "3")
	remove(t, c, "b", true)
	written(t, c)
	asked(t, m, "get a", "get b", "put a 3", "delete b")
	put(t, c, "b", "4")
	get(t, c, "b", "4")
	remove(t, c, "a", true)
	written(t, c)
	asked(t, m, "delete a", "put b 4")
	if !maps.Equal(m.texts, map[string]string{"b": "4"}) {
		t.Errorf("below stands %q", m.texts)
	}
}

// 16.1: a key of MostKey bytes may be put, and a text of MostValue; longer ones are ErrInput, and nothing is done.
func TestPutLimits(t *testing.T) {
	key, text := strings.Repeat("k", api.MostKey), strings.Repeat("t", api.MostValue)
	m := over()
	c := New(m, 2)
	put(t, c, key, text, "a", "1")
	for _, wrong := range [][2]string{{key + "k", "1"}, {key + "k", ""}, {"a", text + "t"}, {key, text + "t"}, {"", text + "t"}, {"new", text + "t"}, {key + "k", text + "t"}} {
		if e := c.Put(wrong[0], wrong[1]); e != api.ErrInput {
			t.Errorf("Put of a key of %d bytes, a text of %d = %d", len(wrong[0]), len(wrong[1]), e)
		}
		asked(t, m)
		held(t, c, 2)
	}
	written(t, c)
	asked(t, m, "put a 1", "put "+key+" "+text)
	get(t, c, key, text)
	get(t, c, "a", "1")
	asked(t, m)
}

// 16.1: a Put that is refused is no asking: the key that was asked for longest ago stays that.
func TestRefusedPutIsNoAsking(t *testing.T) {
	m := over()
	c := New(m, 2)
	put(t, c, "a", "1", "b", "2")
	if e := c.Put("a", strings.Repeat("t", api.MostValue+1)); e != api.ErrInput {
		t.Errorf("Put of a long text = %d", e)
	}
	put(t, c, "c", "3")
	asked(t, m, "put a 1")
}

// Words: so many are held at most, and one at least.
func TestMost(t *testing.T) {
	for most, want := range map[int]int{math.MinInt: 1, -1: 1, 0: 1, 1: 1, 2: 2, 7: 7, 20: 20, 4096: 20, math.MaxInt: 20} {
		m := over()
		c := New(m, most)
		for n := range 20 {
			put(t, c, fmt.Sprintf("%02d", n), "x")
			held(t, c, min(n+1, want))
			cost(t, c, 0, max(n+1-want, 0))
		}
	}
}

// Words: the one that goes is the one that was asked for longest ago, by Get, Put or Delete, be it there or not.
func TestTheOldestGoes(t *testing.T) {
	for _, m := range []*below{over(), over("a", "1", "b", "2", "c", "3")} {
		for _, ask := range calls("a")[:3] {
			goesLast(t, m, "a", ask, "b", "c")
		}
		for _, ask := range calls("b")[:3] {
			goesLast(t, m, "b", ask, "a", "c")
		}
		for _, ask := range calls("c")[:3] {
			goesLast(t, m, "c", ask, "a", "b")
		}
	}
}

// goesLast holds that a key of three goes behind the others, if it was asked for last.
func goesLast(t *testing.T, m *below, key string, ask call, others ...string) {
	t.Helper()
	c := New(&below{texts: maps.Clone(m.texts), fails: never}, 3)
	for _, read := range []string{"a", "b", "c"} {
		calls(read)[0].do(c)
	}
	ask.do(c)
	for _, gone := range append(others, key) {
		if c.held[gone] == nil {
			t.Errorf("behind %s, %s goes ahead of its turn", ask.name, gone)
		}
		put(t, c, "for "+gone, "")
		if c.held[gone] != nil {
			t.Errorf("behind %s, %s does not go in its turn", ask.name, gone)
		}
	}
}

// Words: what was asked for alone is not written when it goes; what was changed is, be it a text or that there is nothing.
func TestWhatGoesIsWritten(t *testing.T) {
	m := over("a", "1", "b", "2")
	c := New(m, 2)
	get(t, c, "a", "1")
	none(t, c, "x")
	get(t, c, "b", "2")
	none(t, c, "y")
	get(t, c, "a", "1")
	asked(t, m, "get a", "get x", "get b", "get y", "get a")
	remove(t, c, "b", true)
	put(t, c, "x", "3")
	asked(t, m, "get b")
	get(t, c, "a", "1")
	asked(t, m, "get a", "delete b")
	remove(t, c, "y", false)
	asked(t, m, "get y", "put x 3")
	none(t, c, "b")
	get(t, c, "x", "3")
	asked(t, m, "get b", "get x")
	held(t, c, 2)
	cost(t, c, 10, 2)
}

// Words: what was written by Sync, and not changed since, is not written again when it goes.
func TestWhatWasSyncedGoesUnwritten(t *testing.T) {
	m := over()
	c := New(m, 2)
	put(t, c, "a", "1", "b", "2")
	written(t, c)
	asked(t, m, "put a 1", "put b 2")
	put(t, c, "b", "3")
	put(t, c, "c", "4", "d", "5")
	asked(t, m, "put b 3")
	cost(t, c, 0, 3)
}

// 16.1: Sync is no asking: what was asked for longest ago stays that.
func TestSyncIsNoAsking(t *testing.T) {
	m := over()
	c := New(m, 3)
	put(t, c, "b", "1", "c", "2", "a", "3")
	written(t, c)
	c.Held()
	c.Cost()
	for _, key := range []string{"b", "c", "a"} {
		put(t, c, "new "+key, "")
		if c.held[key] != nil || c.Held() != 3 {
			t.Errorf("%s does not go in its turn", key)
		}
	}
}

// 16.1: Sync writes by the order of the keys, which is that of their bytes, whichever came first; all of them stay held.
func TestSync(t *testing.T) {
	keys := []string{"", "\x00", "a", "a\x00", "aa", "ab", "b", "z", "\x7f", "\x80", "\xff", "\xff\xff"}
	for seed := range int64(20) {
		m := over("aa", "old", "z", "old", "same", "old")
		c := New(m, len(keys)+1)
		get(t, c, "same", "old")
		for _, at := range rand.New(rand.NewSource(seed)).Perm(len(keys)) {
			put(t, c, keys[at], "t")
		}
		remove(t, c, "z", true)
		remove(t, c, "aa", true)
		asked(t, m, "get same")
		written(t, c)
		var want []string
		for _, key := range keys {
			if key == "aa" || key == "z" {
				want = append(want, "delete "+key)
			} else {
				want = append(want, "put "+key+" t")
			}
		}
		asked(t, m, want...)
		held(t, c, len(keys)+1)
		cost(t, c, 1, len(keys))
		for _, key := range keys {
			if key == "aa" || key == "z" {
				none(t, c, key)
			} else {
				get(t, c, key, "t")
			}
		}
		written(t, c)
		asked(t, m)
	}
}

// Words: a key that may not be put is not held: what is told of it is what is told below, each time.
func TestLongKeys(t *testing.T) {
	long := strings.Repeat("k", api.MostKey+1)
	m := over(long, "1")
	c := New(m, 1)
	put(t, c, "a", "1")
	get(t, c, long, "1")
	get(t, c, long, "1")
	remove(t, c, long, true)
	remove(t, c, long, false)
	none(t, c, long)
	asked(t, m, "get "+long, "get "+long, "delete "+long, "delete "+long, "get "+long)
	held(t, c, 1)
	cost(t, c, 3, 2)
	get(t, c, "a", "1")
	asked(t, m)
}

// 16.1: text that stands below is told, however long it is.
func TestLongTexts(t *testing.T) {
	text := strings.Repeat("t", api.MostValue+1)
	m := over("a", text)
	c := New(m, 1)
	get(t, c, "a", text)
	get(t, c, "a", text)
	remove(t, c, "a", true)
	asked(t, m, "get a")
}

// opened is a store on a disk.
func opened(t *testing.T, d *disk.Disk) *store.Store {
	t.Helper()
	s, e := store.Open(d)
	if e != api.OK {
		t.Fatalf("Open: %d", e)
	}
	return s
}

// 16.1: over a store, each answer is the store's own, of keys and texts of any length; what was changed is there for good with Sync and Commit.
func TestOverAStore(t *testing.T) {
	d, _ := disk.New(4000, nil)
	plain, _ := disk.New(4000, nil)
	s, want := opened(t, d), opened(t, plain)
	c := New(s, 3)
	r := rand.New(rand.NewSource(1))
	keys := []string{"", "a", "b", "c", "d", "e", "f", strings.Repeat("k", api.MostKey), strings.Repeat("k", api.MostKey+1)}
	for range 2000 {
		key := keys[r.Intn(len(keys))]
		text := strings.Repeat("t", []int{0, 1, 100, 300, api.MostValue, api.MostValue + 1}[min(r.Intn(40), 5)*r.Intn(2)])
		switch r.Intn(4) {
		case 0:
			got, is, e := c.Get(key)
			if text, was, err := want.Get(key); got != text || is != was || e != err {
				t.Fatalf("Get(%q) = %d bytes, %t, %d; not %d, %t, %d", key, len(got), is, e, len(text), was, err)
			}
		case 1:
			if got, e := c.Put(key, text), want.Put(key, text); got != e {
				t.Fatalf("Put(%q) of %d bytes = %d; not %d", key, len(text), got, e)
			}
		case 2:
			got, e := c.Delete(key)
			if is, err := want.Delete(key); got != is || e != err {
				t.Fatalf("Delete(%q) = %t, %d; not %t, %d", key, got, e, is, err)
			}
		case 3:
			if r.Intn(20) == 0 {
				written(t, c)
				if e := s.Commit(); e != api.OK {
					t.Fatalf("Commit: %d", e)
				}
				s = opened(t, d)
				same(t, s, want)
				c = New(s, 1+r.Intn(9))
			}
		}
	}
	written(t, c)
	same(t, s, want)
}

// same holds that two stores have the same keys and texts.
func same(t *testing.T, a, b *store.Store) {
	t.Helper()
	keys, texts, e := a.Keys("", "\xff", 100)
	want, they, err := b.Keys("", "\xff", 100)
	if !slices.Equal(keys, want) || !slices.Equal(texts, they) || e != api.OK || err != api.OK {
		t.Errorf("the store has %q; not %q", keys, want)
	}
}

// model is what a cache is by the chapter's words: keys by when they were asked for, and all is written down in a plain list.
type model struct {
	most  int
	below map[string]string
	now   map[string]string // as it would be without the cache
	order []string          // what is held, the one that was asked for longest ago first
	dirty map[string]bool
	asked []string
}

// touch asks for a key.
func (m *model) touch(key string, reads bool) {
	if at := slices.Index(m.order, key); at >= 0 {
		m.order = append(slices.Delete(m.order, at, at+1), key)
		return
	}
	if reads {
		m.asked = append(m.asked, "get "+key)
	}
	m.order = append(m.order, key)
	if len(m.order) > m.most {
		first := m.order[0]
		m.order = m.order[1:]
		m.write(first)
	}
}

// write writes a key below, if it was changed.
func (m *model) write(key string) {
	if !m.dirty[key] {
		return
	}
	delete(m.dirty, key)
	if text, is := m.now[key]; is {
		m.asked = append(m.asked, "put "+key+" "+text)
		m.below[key] = text
		return
	}
	m.asked = append(m.asked, "delete "+key)
	delete(m.below, key)
}

// sync writes all below.
func (m *model) sync() {
	for _, key := range slices.Sorted(maps.Keys(m.dirty)) {
		m.write(key)
	}
}

// 16.1: whatever is asked in whatever order, all is as the chapter's words say: answers, what is asked below and when, how many are held, what it costs.
func TestAtRandom(t *testing.T) {
	for seed := range int64(60) {
		r := rand.New(rand.NewSource(seed))
		most := 1 + r.Intn(8)
		kv := over("a", "1", "c", "2", "e", "", "g", "3")
		want := &model{most: most, below: maps.Clone(kv.texts), now: maps.Clone(kv.texts), dirty: map[string]bool{}}
		c := New(kv, most)
		for step := range 600 {
			oneAtRandom(t, r, c, want)
			if !slices.Equal(kv.asked, want.asked) || !maps.Equal(kv.texts, want.below) {
				t.Fatalf("seed %d, step %d: below was asked %q; not %q", seed, step, kv.asked, want.asked)
			}
			held(t, c, len(want.order))
			reads := 0
			for _, what := range want.asked {
				if strings.HasPrefix(what, "get") {
					reads++
				}
			}
			cost(t, c, reads, len(want.asked)-reads)
		}
		written(t, c)
		if !maps.Equal(kv.texts, want.now) {
			t.Errorf("seed %d: below stands %q; not %q", seed, kv.texts, want.now)
		}
	}
}

// oneAtRandom asks a cache and its model for something.
func oneAtRandom(t *testing.T, r *rand.Rand, c *Cache, want *model) {
	t.Helper()
	key := string(rune('a' + r.Intn(12)))
	text, is := want.now[key]
	switch what := r.Intn(31); {
	case what < 10:
		want.touch(key, true)
		if is {
			get(t, c, key, text)
		} else {
			none(t, c, key)
		}
	case what < 20:
		text := strings.Repeat("x", r.Intn(3))
		want.touch(key, false)
		want.now[key], want.dirty[key] = text, true
		put(t, c, key, text)
	case what < 30:
		want.touch(key, true)
		if is {
			delete(want.now, key)
			want.dirty[key] = true
		}
		remove(t, c, key, is)
	default:
		want.sync()
		written(t, c)
	}
}

// R4: the same calls ask the same below, in the same order.
func TestTwice(t *testing.T) {
	var first []string
	for turn := range 20 {
		m := over()
		c := New(m, 30)
		for n := range 90 {
			put(t, c, fmt.Sprint(n*7%50), fmt.Sprint(n))
		}
		written(t, c)
		if turn == 0 {
			first = m.asked
		}
		asked(t, m, first...)
	}
}
