package queue

import (
	"encoding/binary"
	"fmt"
	"maps"
	"math"
	"slices"
	"strings"
	"testing"

	"keyway/api"
	"keyway/store"
)

const never = -1

// failing is keys and texts of which one asking, or that and all behind it, is an error; beside it stand other things than nothing.
type failing struct {
	under memory
	at    int // which asking fails, from 0 on
	on    bool
	err   api.Errno
	asked []string
}

func (f *failing) fails(what string) bool {
	f.asked = append(f.asked, what)
	now := len(f.asked) - 1
	return f.at != never && (now == f.at || f.on && now > f.at)
}

func (f *failing) Get(key string) (string, bool, api.Errno) {
	if f.fails(fmt.Sprintf("get %q", key)) {
		return "\x01\x05\x05", true, f.err
	}
	return f.under.Get(key)
}

func (f *failing) Put(key, text string) api.Errno {
	if f.fails(fmt.Sprintf("put %q %q", key, text)) {
		return f.err
	}
	return f.under.Put(key, text)
}

func (f *failing) Delete(key string) (bool, api.Errno) {
	if f.fails(fmt.Sprintf("delete %q", key)) {
		return true, f.err
	}
	return f.under.Delete(key)
}

// call is a call of a queue: whether all that it tells beside its error is nothing, and the error.
type call struct {
	name string
	do   func(q *Queue) (nothing bool, e api.Errno)
}

func calls(n uint64) []call {
	return []call{
		{"Len()", func(q *Queue) (bool, api.Errno) {
			many, e := q.Len()
			return many == 0, e
		}},
		{fmt.Sprintf("Has(%d)", n), func(q *Queue) (bool, api.Errno) {
			is, e := q.Has(n)
			return !is, e
		}},
		{fmt.Sprintf("Push(%d)", n), func(q *Queue) (bool, api.Errno) {
			did, e := q.Push(n)
			return !did, e
		}},
		{"Pop()", func(q *Queue) (bool, api.Errno) {
			n, is, e := q.Pop()
			return n == 0 && !is, e
		}},
	}
}

// 15.1: a queue that is not there, or without a KV, is ErrInput, in all of its calls, of whatever number.
func TestNil(t *testing.T) {
	for name, q := range map[string]*Queue{"nil": nil, "the zero queue": {}, "without a KV": New(nil, "q"), "without a KV or a name": New(nil, "")} {
		for _, n := range []uint64{0, 5, greatest, greatest + 1, math.MaxUint64} {
			for _, c := range calls(n) {
				if nothing, e := c.do(q); !nothing || e != api.ErrInput {
					t.Errorf("%s of %s: error %d, nothing beside it: %t", c.name, name, e, nothing)
				}
			}
		}
	}
}

// 15.1: an error of the KV is told, whichever asking it is of, and whichever error; nothing stands beside it.
func TestErrorsOfTheKV(t *testing.T) {
	for _, waits := range [][]uint64{nil, {5}, {5, 7}, {7, 5, 9}, {9, 0, greatest, 5}} {
		for _, c := range slices.Concat(calls(5), calls(0), calls(greatest), calls(100)) {
			for _, err := range []api.Errno{api.ErrPower, api.ErrFull, api.ErrInput, api.ErrForm, api.ErrShort, -1, math.MaxInt} {
				failAll(t, waits, c, err)
			}
		}
	}
}

// failAll lets each asking of a call fail, one by one.
func failAll(t *testing.T, waits []uint64, c call, err api.Errno) {
	t.Helper()
	whole := &failing{under: memory{}, at: never}
	q := New(whole, "q")
	pushed(t, q, waits...)
	was := maps.Clone(whole.under)
	whole.asked = nil
	if _, e := c.do(q); e != api.OK {
		t.Errorf("%s of %v: error %d", c.name, waits, e)
	}
	if len(whole.asked) == 0 {
		t.Errorf("%s of %v asks nothing", c.name, waits)
	}
	for at := range whole.asked {
		for _, on := range []bool{false, true} {
			kv := &failing{under: maps.Clone(was), at: at, on: on, err: err}
			if nothing, e := c.do(New(kv, "q")); !nothing || e != err {
				t.Errorf("%s of %v, where asking %d (%s) is error %d: error %d, nothing beside it: %t", c.name, waits, at, whole.asked[at], err, e, nothing)
			}
			if kv.asked[at] != whole.asked[at] || len(kv.asked) != at+1 {
				t.Errorf("%s of %v goes on behind an error: %q", c.name, waits, kv.asked[at:])
			}
		}
	}
}

// 15.1: where a call ended by an error, what comes afterwards is what it would have been with or without it, or ErrForm; it is never a number at a wrong place.
func TestBehindErrorsOfTheKV(t *testing.T) {
	waits := []uint64{5, 7, 9}
	for _, c := range []call{calls(1)[2], calls(1)[3]} {
		for at := range 12 {
			kv := &failing{under: memory{}, at: never, err: api.ErrFull}
			q := New(kv, "q")
			pushed(t, q, waits...)
			kv.at = len(kv.asked) + at
			c.do(q)
			kv.at = never
			got := drained(t, q)
			if !begins([]uint64{5, 7, 9, 1}, got) && !begins([]uint64{7, 9}, got) {
				t.Errorf("%s, of which asking %d failed: then come %v", c.name, at, got)
			}
		}
	}
}

// begins tells whether a list begins with another one.
func begins(l, with []uint64) bool {
	return len(with) <= len(l) && slices.Equal(with, l[:len(with)])
}

// drained is what Pop tells until nothing waits, or till it tells an error, which must be ErrForm.
func drained(t *testing.T, q *Queue) []uint64 {
	t.Helper()
	var got []uint64
	for range 100 {
		n, is, e := q.Pop()
		if e != api.OK && e != api.ErrForm {
			t.Errorf("Pop() = error %d", e)
		}
		if !is {
			return got
		}
		got = append(got, n)
	}
	t.Error("Pop goes on and on")
	return nil
}

// 15.1: a key that the KV does not take is an error, and nothing is done: the queue goes on without that number.
func TestNamesThatAreTooLong(t *testing.T) {
	for many := api.MostKey - 12; many <= api.MostKey+2; many++ {
		_, s := onDisk(t, 100)
		q := New(s, strings.Repeat("n", many))
		var waits []uint64
		for bytes := range 8 {
			n := uint64(1)<<(8*bytes) - 1
			did, e := q.Push(n)
			if did != (e == api.OK) || e != api.OK && e != api.ErrInput {
				t.Errorf("a name of %d bytes: Push(%d) = %t, %d", many, n, did, e)
			}
			if did {
				waits = append(waits, n)
			}
			has(t, q, n, did)
			long(t, q, len(waits))
		}
		if many <= api.MostKey-9 && len(waits) < 8 || many > api.MostKey && len(waits) > 0 {
			t.Errorf("a name of %d bytes: %v wait", many, waits)
		}
		popped(t, q, waits...)
		long(t, q, 0)
		if keys, _, e := s.Keys("", "\xff", 9); len(keys) != 0 || e != api.OK {
			t.Errorf("a name of %d bytes: nothing waits, and there are keys: %q, %d", many, keys, e)
		}
	}
}

// 15.1: errors of a store are told: of one that is not there, and of one that has no room; behind Undo all is as it was committed.
func TestErrorsOfAStore(t *testing.T) {
	var gone *store.Store
	for _, c := range calls(5) {
		if nothing, e := c.do(New(gone, "q")); !nothing || e != api.ErrInput {
			t.Errorf("%s over no store: error %d, nothing beside it: %t", c.name, e, nothing)
		}
	}

	_, s := onDisk(t, 8)
	q := New(s, "q")
	pushed(t, q, 5, 7)
	if e := s.Commit(); e != api.OK {
		t.Fatal(e)
	}
	var e api.Errno
	for n := uint64(100); e == api.OK && n < 1000; n++ {
		_, e = q.Push(n)
	}
	if e != api.ErrFull {
		t.Errorf("without room: error %d", e)
	}
	for _, c := range calls(5) {
		if nothing, e := c.do(q); !nothing || e != api.ErrFull {
			t.Errorf("%s behind ErrFull: error %d, nothing beside it: %t", c.name, e, nothing)
		}
	}
	s.Undo()
	long(t, q, 2)
	popped(t, q, 5, 7)
	long(t, q, 0)
}

// 15.1: what is in the keys and is no queue's is ErrForm, in each call that meets it; nothing is changed then.
func TestWhatIsNoQueues(t *testing.T) {
	const key5, key7, key9 = "q\x01\x05", "q\x01\x07", "q\x01\x09"
	above := string(binary.AppendUvarint(nil, greatest+1))
	beyond := string(binary.AppendUvarint(nil, greatest+2))
	for _, c := range []struct {
		name string
		keys memory
	}{
		{"a line of no bytes", memory{"q": ""}},
		{"a line of one number", memory{"q": "\x01"}},
		{"a line of two numbers", memory{"q": "\x01\x05", key5: "\x00"}},
		{"a line of four numbers", memory{"q": "\x01\x05\x05\x00", key5: "\x00"}},
		{"a line of none", memory{"q": "\x00\x05\x05", key5: "\x00"}},
		{"a line of none at all", memory{"q": "\x00\x00\x00"}},
		{"a line of one, with two ends", memory{"q": "\x01\x05\x07", key5: "\x08", key7: "\x00"}},
		{"a line of two, with one end", memory{"q": "\x02\x05\x05", key5: "\x00"}},
		{"a line that is not in its form", memory{"q": "\x81\x00\x05\x05", key5: "\x00"}},
		{"a line of more than may wait", memory{"q": beyond + "\x05\x07", key5: "\x08", key7: "\x00"}},
		{"a first one above all", memory{"q": "\x02" + above + "\x07", key7: "\x00"}},
		{"a last one above all", memory{"q": "\x02\x05" + above, key5: above}},
		{"a line without its numbers", memory{"q": "\x01\x05\x05"}},
		{"a line without its first one", memory{"q": "\x02\x05\x07", key7: "\x00"}},
		{"a line without its last one", memory{"q": "\x02\x05\x07", key5: "\x08"}},
		{"words", memory{"q": "bad", key5: "bad", key7: "bad"}},
		{"one of no bytes", memory{"q": "\x01\x05\x05", key5: ""}},
		{"one that says more", memory{"q": "\x01\x05\x05", key5: "\x00\x00"}},
		{"one that is cut short", memory{"q": "\x02\x05\x07", key5: "\x88", key7: "\x00"}},
		{"one that is not in its form", memory{"q": "\x02\x05\x07", key5: "\x88\x00", key7: "\x00"}},
		{"one behind the last one", memory{"q": "\x01\x05\x05", key5: "\x08"}},
		{"one behind the last one of two", memory{"q": "\x02\x05\x07", key5: "\x08", key7: "\x06"}},
		{"none behind the first one", memory{"q": "\x02\x05\x07", key5: "\x00", key7: "\x00"}},
		{"one behind it that is above all", memory{"q": "\x02\x05\x07", key5: beyond, key7: "\x00"}},
		{"a last one of no bytes", memory{"q": "\x03\x05\x07", key5: "\x0a", key9: "\x08", key7: ""}},
	} {
		was := maps.Clone(c.keys)
		for _, do := range slices.Concat(calls(5), calls(7), calls(100), calls(greatest+1)) {
			if nothing, e := do.do(New(c.keys, "q")); !nothing || e != api.ErrForm {
				t.Errorf("%s of %s: error %d, nothing beside it: %t", do.name, c.name, e, nothing)
			}
			if !maps.Equal(c.keys, was) {
				t.Errorf("%s of %s changed the keys to %q", do.name, c.name, c.keys)
			}
		}
	}
}

// 15.1: a number that stands in the keys of no queue, or that may not wait, is ErrForm where it is asked for.
func TestNumbersThatAreNoQueues(t *testing.T) {
	for _, c := range []struct {
		name string
		keys memory
		n    uint64
	}{
		{"one without a line", memory{"q\x01\x05": "\x00"}, 5},
		{"one without a line, behind which one is", memory{"q\x01\x05": "\x08"}, 5},
		{"one that no other one leads to", memory{"q": "\x01\x07\x07", "q\x01\x07": "\x00", "q\x01\x05": "\x00"}, 5},
		{"one that may not wait", memory{"q": "\x01\x07\x07", "q\x01\x07": "\x00", "q\x08\x40\x00\x00\x00\x00\x00\x00\x01": "\x08"}, greatest + 1},
		{"the greatest one", memory{"q\x08\xff\xff\xff\xff\xff\xff\xff\xff": "\x00"}, math.MaxUint64},
		{"one of no bytes between", memory{"q": "\x03\x01\x07", "q\x01\x01": "\x06", "q\x01\x05": "", "q\x01\x07": "\x00"}, 5},
		{"one of words between", memory{"q": "\x03\x01\x07", "q\x01\x01": "\x06", "q\x01\x05": "words", "q\x01\x07": "\x00"}, 5},
	} {
		was := maps.Clone(c.keys)
		for _, do := range calls(c.n)[1:3] {
			if nothing, e := do.do(New(c.keys, "q")); !nothing || e != api.ErrForm {
				t.Errorf("%s of %s: error %d, nothing beside it: %t", do.name, c.name, e, nothing)
			}
			if !maps.Equal(c.keys, was) {
				t.Errorf("%s of %s changed the keys", do.name, c.name)
			}
		}
	}
}

// spoiled are other keys and texts than some: each text is lost, cut, longer, another one, or that of another key.
func spoiled(m memory) []memory {
	var all []memory
	with := func(key, text string) {
		if other := maps.Clone(m); other[key] != text {
			other[key] = text
			all = append(all, other)
		}
	}
	for _, key := range slices.Sorted(maps.Keys(m)) {
		lost := maps.Clone(m)
		delete(lost, key)
		all = append(all, lost)
		for _, text := range []string{"", "\x00", "\x01", "\x80", "\xff", "x", "\xff\xff", "words", m[key] + "\x00", "\x00" + m[key], m[key][1:], m[key][:len(m[key])-1], strings.Repeat("\xff", 40)} {
			with(key, text)
		}
		for _, other := range slices.Sorted(maps.Keys(m)) {
			with(key, m[other])
		}
		for at := range m[key] {
			for bit := range 8 {
				with(key, m[key][:at]+string([]byte{m[key][at] ^ 1<<bit})+m[key][at+1:])
			}
		}
	}
	return all
}

// 15.1: whatever is spoiled of a queue's keys, it is told as ErrForm, before all has been asked for and taken; no call tells another error, and all end.
func TestSpoiledKeys(t *testing.T) {
	for _, waits := range [][]uint64{{5}, {0, 1}, {5, 7, 9}, {300, 2, 0, greatest, 1, 7}} {
		m := memory{}
		pushed(t, New(m, "q"), waits...)
		for _, kv := range spoiled(m) {
			was := maps.Clone(kv)
			told := false
			for _, n := range append(waits, 100) {
				for _, c := range calls(n)[:3] {
					nothing, e := c.do(New(maps.Clone(was), "q"))
					if e != api.OK && e != api.ErrForm || e != api.OK && !nothing {
						t.Errorf("%s of %q: error %d, nothing beside it: %t", c.name, was, e, nothing)
					}
					told = told || e == api.ErrForm
				}
			}
			q := New(kv, "q")
			drained(t, q)
			if _, e := q.Len(); e == api.ErrForm {
				told = true
			}
			if !told {
				t.Errorf("%q is taken as a queue of %v", was, waits)
			}
		}
	}
}

// same is keys that all have one text.
type same struct{ text string }

func (s same) Get(string) (string, bool, api.Errno) { return s.text, true, api.OK }
func (s same) Put(string, string) api.Errno         { return api.OK }
func (s same) Delete(string) (bool, api.Errno)      { return true, api.OK }

// 15.1: keys that all have one text are no queue's, whichever text, in each call.
func TestOneTextOfAllKeys(t *testing.T) {
	texts := []string{"", "words", "\xff\xff\xff", strings.Repeat("\x01", 3), strings.Repeat("\x00", 24), strings.Repeat("z", 70000)}
	for a := range 256 {
		texts = append(texts, string([]byte{byte(a)}), string([]byte{byte(a), 5, 5}), string([]byte{byte(a), 5, 7}))
	}
	for _, text := range texts {
		for _, c := range slices.Concat(calls(5), calls(0), calls(greatest)) {
			if nothing, e := c.do(New(same{text}, "q")); !nothing || e != api.ErrForm {
				t.Errorf("%s of %.9q: error %d, nothing beside it: %t", c.name, text, e, nothing)
			}
		}
	}
}
