package phase

import (
	"maps"
	"slices"
	"testing"

	"keyway/api"
	"keyway/disk"
	"keyway/store"
)

// failing is keys and texts that are an error; beside it stands a record.
type failing struct {
	err   api.Errno
	asked []string
}

func (f *failing) Get(key string) (string, bool, api.Errno) {
	f.asked = append(f.asked, "get "+key)
	return "\x01\x05\x02", true, f.err
}

func (f *failing) Put(key, text string) api.Errno {
	f.asked = append(f.asked, "put "+key)
	return f.err
}

func (f *failing) Delete(key string) (bool, api.Errno) {
	f.asked = append(f.asked, "delete "+key)
	return true, f.err
}

// 17.1: without a KV all is ErrInput, whatever the record.
func TestWithoutAKV(t *testing.T) {
	loaded(t, nil, api.Phase{}, api.ErrInput)
	for _, p := range slices.Concat(records(), unlike()) {
		saved(t, nil, p, api.ErrInput)
	}
}

// 17.1: over a store that is not there, what it says is told.
func TestOverANilStore(t *testing.T) {
	var s *store.Store
	loaded(t, s, api.Phase{}, api.ErrInput)
	saved(t, s, api.Phase{Phase: 1}, api.ErrInput)
}

// 17.1: Save of a record that may not be is ErrInput, and what is kept stays, be it a record or none.
func TestSaveOfWhatMayNotBe(t *testing.T) {
	for _, m := range []memory{{}, {"z": "\x01\x05\x02"}, {"z": "no record"}} {
		was := maps.Clone(m)
		for _, p := range unlike() {
			saved(t, m, p, api.ErrInput)
			if !maps.Equal(m, was) {
				t.Fatalf("Save(%v) changed the keys: %q", p, m)
			}
		}
	}
}

// 17.1: ErrInput comes ahead of an error of the KV, which is not asked.
func TestWhatMayNotBeIsNotAsked(t *testing.T) {
	f := &failing{err: api.ErrPower}
	for _, p := range unlike() {
		saved(t, f, p, api.ErrInput)
	}
	if len(f.asked) != 0 {
		t.Errorf("asked: %q", f.asked)
	}
}

// 17.1: an error of the KV is told, and no record beside it.
func TestErrorsOfTheKV(t *testing.T) {
	for _, err := range []api.Errno{api.ErrInput, api.ErrForm, api.ErrPower, api.ErrTorn, api.ErrFull, api.Errno(9999), api.Errno(-1)} {
		f := &failing{err: err}
		loaded(t, f, api.Phase{}, err)
		for _, p := range []api.Phase{{}, {Phase: 1, Steps: 5, Commits: 2}, {Phase: 7, Steps: beyond - 1, Commits: beyond - 1}} {
			saved(t, f, p, err)
		}
		if want := []string{"get z", "put z", "put z", "put z"}; !slices.Equal(f.asked, want) {
			t.Errorf("asked: %q, not %q", f.asked, want)
		}
	}
}

// 17.1: what is kept and is no record's bytes is a reader's error, and stays.
func TestLoadOfWrongBytes(t *testing.T) {
	for text, want := range map[string]api.Errno{
		"":                 api.ErrShort,
		"\x01\x05":         api.ErrShort,
		"\x01\x05\x02\x00": api.ErrMore,
		"\x08\x05\x02":     api.ErrOver,
		"\x01\x85\x00\x02": api.ErrForm,
	} {
		m := memory{"z": text}
		loaded(t, m, api.Phase{}, want)
		if !maps.Equal(m, memory{"z": text}) {
			t.Errorf("Load changed the keys: %q", m)
		}
	}
}

// 17.1: a KV that tells a text, but not that it is there, has none.
func TestWhatIsNotThere(t *testing.T) {
	loaded(t, absent{}, api.Phase{}, api.OK)
}

// absent has no key, and tells a text beside that.
type absent struct{ memory }

func (absent) Get(string) (string, bool, api.Errno) { return "\x01\x05\x02", false, api.OK }

// step is one record that a run keeps, and commits.
func step(s *store.Store, n uint64) api.Errno {
	if e := Save(s, api.Phase{Phase: 4, Steps: n, Commits: n}); e != api.OK {
		return e
	}
	return s.Commit()
}

// run keeps records of 1 to most: the one that it came to, and its error.
func run(d *disk.Disk, most uint64) (uint64, api.Errno) {
	s, e := store.Open(d)
	for n := uint64(1); e == api.OK; n++ {
		if n > most {
			return most, e
		}
		if e = step(s, n); e != api.OK {
			return n - 1, e
		}
	}
	return 0, e
}

// 17.1: wherever the power fails, its error is told, and the record is then the one that was committed last, or that was to be.
func TestWhereThePowerFails(t *testing.T) {
	const most = 4
	for at := 0; ; at++ {
		for _, fate := range []int{api.FateLost, api.FateKept, api.FateTorn} {
			d, e := disk.New(32, []api.Cut{{At: at, Fates: []int{fate}}})
			if e != api.OK {
				t.Fatal(e)
			}
			done, e := run(d, most)
			if e == api.OK && at >= 3*most { // a commit alone is more acts than three
				return
			}
			if e != api.ErrPower {
				t.Fatalf("cut at %d: error %d", at, e)
			}
			d.Up()
			s, e := store.Open(d)
			if e != api.OK {
				t.Fatalf("cut at %d, fate %d: error %d", at, fate, e)
			}
			p, e := Load(s)
			if e != api.OK || p.Steps != done && p.Steps != done+1 || p.Commits != p.Steps {
				t.Errorf("cut at %d, fate %d, behind %d: %v, %d", at, fate, done, p, e)
			}
		}
	}
}

// 17.1: behind an error of a store that stays, Load and Save tell it, until Undo.
func TestBehindAStoresError(t *testing.T) {
	d, e := disk.New(32, []api.Cut{{At: 40}})
	if e != api.OK {
		t.Fatal(e)
	}
	s, e := store.Open(d)
	if e != api.OK {
		t.Fatal(e)
	}
	if e := step(s, 1); e != api.OK {
		t.Fatal(e)
	}
	for n := uint64(2); ; n++ {
		if e = step(s, n); e != api.OK {
			break
		}
	}
	loaded(t, s, api.Phase{}, e)
	saved(t, s, api.Phase{Phase: 5}, e)
	d.Up()
	s.Undo()
	p, e := Load(s)
	if e != api.OK || p.Steps == 0 || p.Steps != p.Commits {
		t.Errorf("behind the power's failing: %v, %d", p, e)
	}
}
