package queue

import (
	"maps"
	"math"
	"math/rand"
	"slices"
	"strings"
	"testing"

	"keyway/api"
	"keyway/disk"
	"keyway/store"
)

const greatest = 1 << 62 // number that may wait, by the chapter

// memory is keys and texts in a map.
type memory map[string]string

func (m memory) Get(key string) (string, bool, api.Errno) {
	text, is := m[key]
	return text, is, api.OK
}

func (m memory) Put(key, text string) api.Errno {
	m[key] = text
	return api.OK
}

func (m memory) Delete(key string) (bool, api.Errno) {
	_, is := m[key]
	delete(m, key)
	return is, api.OK
}

// named is how many keys begin with a name.
func (m memory) named(name string) int {
	many := 0
	for key := range m {
		if strings.HasPrefix(key, name) {
			many++
		}
	}
	return many
}

// pushed lets numbers wait that do not.
func pushed(t *testing.T, q *Queue, numbers ...uint64) {
	t.Helper()
	for _, n := range numbers {
		push(t, q, n, true)
	}
}

// push holds what Push of a number tells.
func push(t *testing.T, q *Queue, n uint64, want bool) {
	t.Helper()
	if did, e := q.Push(n); did != want || e != api.OK {
		t.Errorf("Push(%d) = %t, %d; not %t", n, did, e, want)
	}
}

// popped holds that these numbers come, one by one.
func popped(t *testing.T, q *Queue, numbers ...uint64) {
	t.Helper()
	for _, want := range numbers {
		if n, is, e := q.Pop(); n != want || !is || e != api.OK {
			t.Errorf("Pop() = %d, %t, %d; not %d", n, is, e, want)
		}
	}
}

// has holds what Has of a number tells.
func has(t *testing.T, q *Queue, n uint64, want bool) {
	t.Helper()
	if is, e := q.Has(n); is != want || e != api.OK {
		t.Errorf("Has(%d) = %t, %d; not %t", n, is, e, want)
	}
}

// long holds how many numbers wait.
func long(t *testing.T, q *Queue, want int) {
	t.Helper()
	if many, e := q.Len(); many != want || e != api.OK {
		t.Errorf("Len() = %d, %d; not %d", many, e, want)
	}
}

// none holds that nothing waits, and that nothing of the queue is in the keys.
func none(t *testing.T, q *Queue, m memory) {
	t.Helper()
	long(t, q, 0)
	if n, is, e := q.Pop(); n != 0 || is || e != api.OK {
		t.Errorf("Pop() of nothing = %d, %t, %d", n, is, e)
	}
	if m.named(q.name) != 0 {
		t.Errorf("nothing waits, and there are keys: %q", m)
	}
}

// The chapter's example.
func TestExample(t *testing.T) {
	m := memory{}
	q := New(m, "q")
	pushed(t, q, 5, 7)
	push(t, q, 5, false)
	popped(t, q, 5, 7)
	none(t, q, m)
}

// 15.1: of a queue into which nothing came: nothing waits, and asking leaves nothing in the keys.
func TestEmpty(t *testing.T) {
	m := memory{}
	q := New(m, "q")
	none(t, q, m)
	for _, n := range []uint64{0, 1, 5, greatest, greatest + 1, math.MaxUint64} {
		has(t, q, n, false)
	}
	none(t, q, m)
}

// 15.1: Len and Has tell what waits, with each number that comes and goes.
func TestLenAndHas(t *testing.T) {
	m := memory{}
	q := New(m, "q")
	numbers := []uint64{300, 0, 7, greatest, 1}
	for at, n := range numbers {
		has(t, q, n, false)
		push(t, q, n, true)
		has(t, q, n, true)
		long(t, q, at+1)
	}
	for at, n := range numbers {
		popped(t, q, n)
		long(t, q, len(numbers)-at-1)
		for _, other := range numbers[:at+1] {
			has(t, q, other, false)
		}
		for _, other := range numbers[at+1:] {
			has(t, q, other, true)
		}
	}
	none(t, q, m)
}

// 15.1: a number that waits stays where it is, be it the first one, one between, or the last one.
func TestPushOfWhatWaits(t *testing.T) {
	for _, again := range []uint64{5, 7, 9} {
		m := memory{}
		q := New(m, "q")
		pushed(t, q, 5, 7, 9)
		was := maps.Clone(m)
		push(t, q, again, false)
		if !maps.Equal(m, was) {
			t.Errorf("Push(%d) of what waits changed the keys", again)
		}
		long(t, q, 3)
		popped(t, q, 5, 7, 9)
		none(t, q, m)
	}
}

// 15.1: one that waits alone stays, too.
func TestPushOfTheOnlyOne(t *testing.T) {
	m := memory{}
	q := New(m, "q")
	push(t, q, 5, true)
	push(t, q, 5, false)
	long(t, q, 1)
	popped(t, q, 5)
	none(t, q, m)
}

// 15.1: a number that was popped may wait again, behind all others.
func TestPushOfWhatWasPopped(t *testing.T) {
	m := memory{}
	q := New(m, "q")
	pushed(t, q, 5, 7, 9)
	popped(t, q, 5)
	has(t, q, 5, false)
	push(t, q, 5, true)
	has(t, q, 5, true)
	popped(t, q, 7, 9, 5)
	none(t, q, m)

	for range 3 {
		push(t, q, 5, true)
		popped(t, q, 5)
		none(t, q, m)
	}
}

// 15.1: the one that came first comes first, whichever numbers they are.
func TestOrderIsThatOfComing(t *testing.T) {
	for _, numbers := range [][]uint64{
		{0},
		{0, 1},
		{1, 0},
		{3, 2, 1, 0},
		{127, 128, 126, 255, 256, 254},
		{greatest, 0, greatest - 1, 1},
		{1 << 61, 1 << 60, 1<<62 - 1, 1 << 62},
		{258, 2, 1, 513},
	} {
		m := memory{}
		q := New(m, "q")
		pushed(t, q, numbers...)
		popped(t, q, numbers...)
		none(t, q, m)
	}
}

// 15.1: a number that is at most 2^62 waits, a greater one does not, and nothing is kept of it.
func TestGreatNumbers(t *testing.T) {
	for _, ahead := range [][]uint64{nil, {5}, {5, greatest}} {
		m := memory{}
		q := New(m, "q")
		pushed(t, q, ahead...)
		was := maps.Clone(m)
		for _, n := range []uint64{greatest + 1, greatest + 2, 1<<63 - 1, 1 << 63, math.MaxUint64 - 1, math.MaxUint64} {
			push(t, q, n, false)
			has(t, q, n, false)
			long(t, q, len(ahead))
		}
		if !maps.Equal(m, was) {
			t.Errorf("a number that may not wait changed the keys to %q", m)
		}
		popped(t, q, ahead...)
		none(t, q, m)
	}
}

// 15.1: a queue from which all is taken has no keys, however many there were; keys of others stay.
func TestNoKeysAreLeft(t *testing.T) {
	for many := range 40 {
		m := memory{"p": "of another", "": "of another", "r\x00": "of another"}
		q := New(m, "q")
		for n := range uint64(many) {
			push(t, q, n*n*n, true)
			if m.named("q") == 0 {
				t.Error("a number waits, and there are no keys")
			}
		}
		for n := range uint64(many) {
			if m.named("q") == 0 {
				t.Error("a number waits, and there are no keys")
			}
			popped(t, q, n*n*n)
		}
		none(t, q, m)
		if len(m) != 3 {
			t.Errorf("keys of others: %q", m)
		}
	}
}

// 15.1: many numbers wait at once, and come and go at the same time.
func TestMany(t *testing.T) {
	const many = 5000
	m := memory{}
	q := New(m, "q")
	for n := range uint64(many) {
		push(t, q, n*7919%many, true)
	}
	long(t, q, many)
	for n := range uint64(2 * many) {
		popped(t, q, n%many*7919%many)
		push(t, q, n%many*7919%many, true)
	}
	long(t, q, many)
	for n := range uint64(many) {
		popped(t, q, n*7919%many)
	}
	none(t, q, m)
}

// Words: all that a queue knows is in the keys: another queue of that name over the same keys goes on, also while the first one does.
func TestAnotherQueueGoesOn(t *testing.T) {
	m := memory{}
	pushed(t, New(m, "q"), 5, 7, 9)
	q, other := New(m, "q"), New(m, "q")
	long(t, q, 3)
	push(t, other, 7, false)
	push(t, other, 2, true)
	has(t, q, 2, true)
	popped(t, q, 5)
	has(t, other, 5, false)
	popped(t, other, 7)
	push(t, q, 7, true)
	popped(t, New(m, "q"), 9, 2)
	long(t, other, 1)
	popped(t, other, 7)
	none(t, q, m)
	none(t, other, m)
	push(t, other, 4, true)
	popped(t, q, 4)
	none(t, other, m)
}

// Words: what is known goes where the keys go; what was copied goes on by itself.
func TestQueuesOfCopiedKeys(t *testing.T) {
	m := memory{}
	pushed(t, New(m, "q"), 5, 7)
	n := maps.Clone(m)
	q, other := New(m, "q"), New(n, "q")
	push(t, q, 1, true)
	popped(t, other, 5, 7)
	none(t, other, n)
	popped(t, q, 5, 7, 1)
	none(t, q, m)
}

// names are names neither of which begins with another one.
var names = []string{
	"q", "p", "r", "f\x00", "f\x01", "f\x02\x01", "f\x02\x02", "\x00", "\x01", "\x02\x00", "\xff", "\x80\x01", "\x80\x02", "long names", "long nameS",
}

// Words: two queues of names neither of which begins with the other one do not meet.
func TestNamesDoNotMeet(t *testing.T) {
	for at, first := range names {
		for _, second := range names[at+1:] {
			m := memory{}
			a, b := New(m, first), New(m, second)
			pushed(t, a, 5, 7, 0, 258)
			none(t, b, m)
			has(t, b, 5, false)
			pushed(t, b, 7, 9)
			has(t, a, 9, false)
			long(t, a, 4)
			popped(t, a, 5, 7)
			has(t, b, 7, true)
			popped(t, a, 0, 258)
			none(t, a, m)
			long(t, b, 2)
			popped(t, b, 7, 9)
			none(t, b, m)
		}
	}
}

// Words: all keys of a queue begin with its name, the empty one too.
func TestKeysBeginWithTheName(t *testing.T) {
	for _, name := range append(names, "", strings.Repeat("n", 54)) {
		m := memory{}
		q := New(m, name)
		pushed(t, q, 0, 5, 300, greatest)
		if m.named(name) != len(m) {
			t.Errorf("of the name %q there are keys %q", name, m)
		}
		popped(t, q, 0, 5, 300, greatest)
		none(t, q, m)
		if len(m) != 0 {
			t.Errorf("of the name %q there are keys %q", name, m)
		}
	}
}

// model is a queue by the chapter's words alone.
type model []uint64

func (w *model) push(n uint64) bool {
	if n > greatest || slices.Contains(*w, n) {
		return false
	}
	*w = append(*w, n)
	return true
}

func (w *model) pop() (uint64, bool) {
	if len(*w) == 0 {
		return 0, false
	}
	n := (*w)[0]
	*w = (*w)[1:]
	return n, true
}

// some are numbers that meet often, and some that are at edges.
func some(r *rand.Rand) uint64 {
	switch r.Intn(8) {
	case 0:
		return greatest - 2 + uint64(r.Intn(6))
	case 1:
		return r.Uint64() >> r.Intn(64)
	}
	return uint64(r.Intn(12))
}

// 15.1 and Words: queues of several names over the same keys do what models do, whichever object is asked, whatever is pushed and popped.
func TestWalks(t *testing.T) {
	for seed := range int64(60) {
		r := rand.New(rand.NewSource(seed))
		m := memory{}
		queues := map[string]*Queue{}
		waits := map[string]*model{}
		for _, name := range names {
			queues[name], waits[name] = New(m, name), &model{}
		}
		for range 1500 {
			name := names[r.Intn(1+r.Intn(len(names)))]
			q, w := queues[name], waits[name]
			if r.Intn(5) == 0 {
				q = New(m, name)
				queues[name] = q
			}
			step(t, r, q, w)
			if len(*w) == 0 && m.named(name) != 0 {
				t.Fatalf("seed %d: nothing waits of %q, and there are keys", seed, name)
			}
		}
		for name, w := range waits {
			popped(t, queues[name], *w...)
			none(t, queues[name], m)
		}
		if t.Failed() {
			t.Fatalf("seed %d", seed)
		}
	}
}

// step is a call at random, of a queue and of its model.
func step(t *testing.T, r *rand.Rand, q *Queue, w *model) {
	t.Helper()
	n := some(r)
	switch r.Intn(4) {
	case 0:
		want, wantIs := w.pop()
		if n, is, e := q.Pop(); n != want || is != wantIs || e != api.OK {
			t.Errorf("Pop() = %d, %t, %d; not %d, %t", n, is, e, want, wantIs)
		}
	case 1:
		has(t, q, n, slices.Contains(*w, n))
		long(t, q, len(*w))
	default:
		push(t, q, n, w.push(n))
	}
}

// R4: the same calls ask the same of the KV, in the same order, and leave the same in the keys.
func TestSameCallsSameKeys(t *testing.T) {
	var asked [2][]string
	var left [2]memory
	for time := range 2 {
		r := rand.New(rand.NewSource(1))
		left[time] = memory{}
		kv := &failing{under: left[time], at: never}
		q, w := New(kv, "q"), &model{}
		for range 500 {
			step(t, r, q, w)
		}
		asked[time] = kv.asked
	}
	if !slices.Equal(asked[0], asked[1]) || !maps.Equal(left[0], left[1]) {
		t.Error("the same calls ask not the same")
	}
}

// onDisk is a store on a disk.
func onDisk(t *testing.T, sectors int) (*disk.Disk, *store.Store) {
	t.Helper()
	d, e := disk.New(sectors, nil)
	if e != api.OK {
		t.Fatal(e)
	}
	s, e := store.Open(d)
	if e != api.OK {
		t.Fatal(e)
	}
	return d, s
}

// Words: a queue over a store goes on where that was committed last.
func TestOverAStore(t *testing.T) {
	d, s := onDisk(t, 200)
	q := New(s, "q")
	var numbers []uint64
	for n := range uint64(200) {
		numbers = append(numbers, n*37%200)
	}
	pushed(t, q, numbers...)
	popped(t, q, numbers[:20]...)
	if e := s.Commit(); e != api.OK {
		t.Fatal(e)
	}
	popped(t, q, numbers[20:50]...)
	push(t, q, 1000, true)
	s.Undo()
	long(t, q, 180)
	has(t, q, 1000, false)

	s, e := store.Open(d)
	if e != api.OK {
		t.Fatal(e)
	}
	q = New(s, "q")
	push(t, q, 1000, true)
	push(t, q, numbers[100], false)
	popped(t, q, numbers[20:]...)
	popped(t, q, 1000)
	long(t, q, 0)
	if keys, _, e := s.Keys("", "\xff", 9); len(keys) != 0 || e != api.OK {
		t.Errorf("nothing waits, and there are keys: %q, %d", keys, e)
	}
}
