package cache

import (
	"maps"
	"math"
	"slices"
	"strings"
	"testing"

	"keyway/api"
	"keyway/disk"
	"keyway/store"
)

// call is a call of a cache: whether all that it tells beside its error is nothing, and the error.
type call struct {
	name string
	do   func(c *Cache) (nothing bool, e api.Errno)
}

func calls(key string) []call {
	return []call{
		{"Get(" + key + ")", func(c *Cache) (bool, api.Errno) {
			text, is, e := c.Get(key)
			return text == "" && !is, e
		}},
		{"Put(" + key + ")", func(c *Cache) (bool, api.Errno) { return true, c.Put(key, "new") }},
		{"Delete(" + key + ")", func(c *Cache) (bool, api.Errno) {
			is, e := c.Delete(key)
			return !is, e
		}},
		{"Sync()", func(c *Cache) (bool, api.Errno) { return true, c.Sync() }},
	}
}

// 16.1: a cache that is not there, or over nothing, is ErrInput in all of its calls, of whatever key, and 0.
func TestNil(t *testing.T) {
	for name, c := range map[string]*Cache{"nil": nil, "the zero cache": {}, "over nothing": New(nil, 3), "over nothing, of none": New(nil, 0), "over nothing, of less": New(nil, math.MinInt)} {
		for _, key := range []string{"", "a", strings.Repeat("k", api.MostKey), strings.Repeat("k", api.MostKey+1)} {
			for _, do := range calls(key) {
				if nothing, e := do.do(c); !nothing || e != api.ErrInput {
					t.Errorf("%s of %s: error %d, nothing beside it: %t", do.name, name, e, nothing)
				}
			}
			held(t, c, 0)
			cost(t, c, 0, 0)
		}
	}
}

// 16.1: over a store that is not there, what it says is told.
func TestOverANilStore(t *testing.T) {
	var s *store.Store
	c := New(s, 1)
	if _, _, e := c.Get("a"); e != api.ErrInput {
		t.Errorf("Get = %d", e)
	}
	if _, e := c.Delete("a"); e != api.ErrInput {
		t.Errorf("Delete = %d", e)
	}
	held(t, c, 0)
	put(t, c, "a", "1")
	if e := c.Sync(); e != api.ErrInput {
		t.Errorf("Sync = %d", e)
	}
	if e := c.Put("b", "2"); e != api.ErrInput {
		t.Errorf("Put = %d", e)
	}
}

// changing is a cache of two keys that are changed and not written, of which a was asked for longest ago, and what lies below it.
func changing(t *testing.T) (*Cache, *below) {
	t.Helper()
	m := over("b", "1", "c", "2")
	c := New(m, 2)
	put(t, c, "a", "3")
	remove(t, c, "b", true)
	m.asked = nil
	return c, m
}

// 16.1: an error of the KV below is told, whichever asking it is of; nothing stands beside it, and nothing more is asked.
func TestErrorsBelow(t *testing.T) {
	for _, key := range []string{"a", "b", "c", "d", strings.Repeat("k", api.MostKey+1)} {
		for n := range calls(key) {
			c, whole := changing(t)
			calls(key)[n].do(c)
			for at := range whole.asked {
				for _, err := range []api.Errno{api.ErrPower, api.ErrFull, api.ErrInput, api.ErrForm, api.ErrTorn, -1, math.MaxInt} {
					failOne(t, calls(key)[n], whole, at, err)
				}
			}
		}
	}
}

// failOne lets one asking of a call fail, and looks at what is left.
func failOne(t *testing.T, do call, whole *below, at int, err api.Errno) {
	t.Helper()
	c, m := changing(t)
	reads, writes := c.Cost()
	m.fails, m.err = at, err
	nothing, e := do.do(c)
	if !nothing || e != err {
		t.Errorf("%s, where asking %d (%s) is error %d: error %d, nothing beside it: %t", do.name, at, whole.asked[at], err, e, nothing)
	}
	if !slices.Equal(m.asked, whole.asked[:at+1]) {
		t.Errorf("%s goes on behind an error: %q", do.name, m.asked)
	}
	held(t, c, 2)
	for _, what := range m.asked {
		if strings.HasPrefix(what, "get") {
			reads++
		} else {
			writes++
		}
	}
	cost(t, c, reads, writes)
	m.fails = never
	m.asked = nil
	get(t, c, "a", "3")
	none(t, c, "b")
	asked(t, m)
	written(t, c)
	if !maps.Equal(m.texts, map[string]string{"a": "3", "c": "2"}) {
		t.Errorf("%s, where asking %d failed: below stands %q", do.name, at, m.texts)
	}
}

// 16.1: what could not be written below stays held and changed, and is the one that goes next; the key that it was to go for is not held.
func TestWhatCannotGoStays(t *testing.T) {
	for _, first := range []string{"put", "delete"} {
		m := over("a", "1")
		c := New(m, 2)
		if first == "put" {
			put(t, c, "a", "2")
		} else {
			remove(t, c, "a", true)
		}
		put(t, c, "b", "3")
		m.asked, m.fails, m.on, m.err = nil, 0, true, api.ErrFull
		for range 3 {
			if e := c.Put("c", "4"); e != api.ErrFull {
				t.Errorf("Put = %d", e)
			}
		}
		held(t, c, 2)
		m.asked, m.fails = nil, never
		put(t, c, "c", "4")
		if first == "put" {
			asked(t, m, "put a 2")
		} else {
			asked(t, m, "delete a")
		}
		written(t, c)
		asked(t, m, "put b 3", "put c 4")
	}
}

// 16.1: where Sync ends by an error, what is ahead of that is written; the next one writes the rest, and nothing twice.
func TestSyncGoesOn(t *testing.T) {
	want := []string{"put a 1", "delete b", "put c 2", "delete d", "put e 3"}
	for at := range want {
		m := over("b", "", "d", "")
		c := New(m, 9)
		put(t, c, "e", "3", "c", "2", "a", "1")
		remove(t, c, "d", true)
		remove(t, c, "b", true)
		m.asked, m.fails, m.err = nil, at, api.ErrPower
		if e := c.Sync(); e != api.ErrPower {
			t.Errorf("Sync() = %d", e)
		}
		asked(t, m, want[:at+1]...)
		held(t, c, 5)
		m.fails = never
		written(t, c)
		asked(t, m, want[at:]...)
		written(t, c)
		asked(t, m)
		cost(t, c, 2, len(want)+1)
		if !maps.Equal(m.texts, map[string]string{"a": "1", "c": "2", "e": "3"}) {
			t.Errorf("below stands %q", m.texts)
		}
	}
}

// 16.1: a read that failed leaves nothing held: it is asked for again.
func TestReadAgain(t *testing.T) {
	m := over("a", "1")
	c := New(m, 2)
	for _, do := range []call{calls("a")[0], calls("a")[2]} {
		m.asked, m.fails, m.err = nil, 0, api.ErrTorn
		if nothing, e := do.do(c); !nothing || e != api.ErrTorn {
			t.Errorf("%s: error %d, nothing beside it: %t", do.name, e, nothing)
		}
		held(t, c, 0)
		written(t, c)
		asked(t, m, "get a")
	}
	m.fails = never
	get(t, c, "a", "1")
	asked(t, m, "get a")
}

// 16.1: a failed call is no asking: the key that was asked for longest ago stays that.
func TestFailedCallIsNoAsking(t *testing.T) {
	m := over()
	c := New(m, 2)
	put(t, c, "a", "1", "b", "2")
	m.fails, m.err = 0, api.ErrTorn
	if _, _, e := c.Get("c"); e != api.ErrTorn {
		t.Errorf("Get = %d", e)
	}
	asked(t, m, "get c")
	m.fails = never
	put(t, c, "c", "3")
	asked(t, m, "put a 1")
}

// spoken is a KV that tells texts beside nothing.
type spoken struct{ *below }

func (s spoken) Get(key string) (string, bool, api.Errno) {
	text, is, e := s.below.Get(key)
	if !is {
		text = "wrong"
	}
	return text, is, e
}

// R1: where there is nothing, nothing stands beside that, whatever is told below.
func TestNothingBesideFalse(t *testing.T) {
	c := New(spoken{over("a", "1")}, 3)
	for range 2 {
		none(t, c, "b")
		none(t, c, strings.Repeat("k", api.MostKey+1))
		remove(t, c, "b", false)
		get(t, c, "a", "1")
		remove(t, c, "a", true)
		none(t, c, "a")
		put(t, c, "a", "1")
	}
}

// 16.1: a store that has no room tells so when what was changed is written, and all is what was committed behind Undo.
func TestStoreWithoutRoom(t *testing.T) {
	d, _ := disk.New(8, nil)
	s := opened(t, d)
	c := New(s, 4)
	put(t, c, "a", "1")
	written(t, c)
	if e := s.Commit(); e != api.OK {
		t.Fatalf("Commit: %d", e)
	}
	put(t, c, "b", strings.Repeat("t", api.MostValue))
	if e := c.Sync(); e != api.ErrFull {
		t.Errorf("Sync() = %d", e)
	}
	if _, _, e := c.Get("c"); e != api.ErrFull {
		t.Errorf("Get behind that = %d", e)
	}
	held(t, c, 2)
	s.Undo()
	c = New(s, 4)
	get(t, c, "a", "1")
	none(t, c, "b")
	if e := c.Sync(); e != api.OK {
		t.Errorf("Sync() = %d", e)
	}
}
