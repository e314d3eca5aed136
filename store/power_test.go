package store

import (
	"fmt"
	"maps"
	"math/rand"
	"slices"
	"testing"

	"keyway/api"
	"keyway/disk"
)

// texts is keys and what they have.
type texts map[string]string

// do is something that is done to a store.
type do struct {
	what int
	key  string
	text string
}

const (
	doPut = iota
	doDelete
	doCommit
	doUndo
	doGet
)

func put(key string, n int) do { return do{doPut, key, textOf(n)} }
func remove(key string) do     { return do{what: doDelete, key: key} }
func get(key string) do        { return do{what: doGet, key: key} }

var (
	commit = do{what: doCommit}
	undo   = do{what: doUndo}
)

// play is a store to which things are done, and what must be there: now; what was committed last; and, if the power failed in Commit, what that was to commit.
type play struct {
	d       *disk.Disk
	s       *Store
	now     texts
	last    texts
	gen     uint64
	perhaps texts
	inDoubt bool
}

// does does one thing: its error.
func (p *play) does(what do) api.Errno {
	var e api.Errno
	switch what.what {
	case doPut:
		if e = p.s.Put(what.key, what.text); e == api.OK {
			p.now[what.key] = what.text
		}
	case doDelete:
		if _, e = p.s.Delete(what.key); e == api.OK {
			delete(p.now, what.key)
		}
	case doCommit:
		if e = p.s.Commit(); e == api.OK {
			p.last = maps.Clone(p.now)
			p.gen++
		} else {
			p.perhaps, p.inDoubt = maps.Clone(p.now), true
		}
	case doUndo:
		p.s.Undo()
		p.now = maps.Clone(p.last)
	case doGet:
		_, _, e = p.s.Get(what.key)
	}
	return e
}

// played is a play on a disk of so many sectors, which nobody opened.
func played(t *testing.T, sectors int, cuts ...api.Cut) *play {
	t.Helper()
	return &play{d: made(t, sectors, cuts...), now: texts{}, last: texts{}, gen: 1}
}

// runs opens the disk and does all, until there is an error: it, and how many things were done.
func (p *play) runs(script []do) (api.Errno, int) {
	s, e := Open(p.d)
	if e != api.OK {
		return e, 0
	}
	p.s = s
	for at, what := range script {
		if e := p.does(what); e != api.OK {
			return e, at
		}
	}
	return api.OK, len(script)
}

const mostCuts = 60 // that a disk has here

// powered does something, with power given again as often as it fails in that: its error.
func powered(d *disk.Disk, f func() api.Errno) api.Errno {
	e := f()
	for tries := 0; e == api.ErrPower && tries < mostCuts; tries++ {
		d.Up()
		e = f()
	}
	return e
}

// reopened is a store of a disk, opened as often as the power fails in that.
func reopened(t *testing.T, d *disk.Disk) *Store {
	t.Helper()
	var s *Store
	e := powered(d, func() (e api.Errno) { s, e = Open(d); return })
	if e != api.OK {
		t.Fatalf("Open = %d", e)
	}
	return s
}

// found is all that a store has.
func found(t *testing.T, d *disk.Disk, s *Store) texts {
	t.Helper()
	var keys, values []string
	e := powered(d, func() (e api.Errno) { keys, values, e = s.Keys("", above, 1<<30); return })
	if e != api.OK || len(keys) != len(values) || !slices.IsSorted(keys) {
		t.Fatalf("Keys = %q, %d texts, %d", keys, len(values), e)
	}
	all := texts{}
	for at, key := range keys {
		all[key] = values[at]
		var text string
		var is bool
		e := powered(d, func() (e api.Errno) { text, is, e = s.Get(key); return })
		if text != values[at] || !is || e != api.OK {
			t.Fatalf("Get(%q) = %d bytes, %v, %d; not %d", key, len(text), is, e, len(values[at]))
		}
	}
	return all
}

// settles holds that a store is what was committed last or, in doubt, perhaps what was to be committed: whether it is that. Then there is no doubt.
func (p *play) settles(t *testing.T, s *Store) bool {
	t.Helper()
	all := found(t, p.d, s)
	isNew := p.inDoubt && s.Gen() == p.gen+1
	gen, want := p.gen, p.last
	if isNew {
		gen, want = p.gen+1, p.perhaps
	}
	if s.Gen() != gen || !maps.Equal(all, want) {
		t.Fatalf("generation %d with %d keys, not %d with %d (or, if that may be: %v, with %d)", s.Gen(), len(all), p.gen, len(p.last), p.inDoubt, len(p.perhaps))
	}
	if left := p.d.Sectors() - states - counted(t, p.d); s.Left() != left || s.Err() != api.OK {
		t.Fatalf("Left = %d, Err = %d; not %d", s.Left(), s.Err(), left)
	}
	p.s, p.gen = s, gen
	p.now, p.last = maps.Clone(want), want
	p.perhaps, p.inDoubt = nil, false
	return isNew
}

// scripts is things that are done: with leaves that are parted and joined, long texts that come, change and go, and Undo.
func scripts() map[string][]do {
	grow := []do{}
	for at := range 12 {
		grow = append(grow, put(fmt.Sprint("key", at), 40))
		if at%4 == 3 {
			grow = append(grow, commit)
		}
	}
	shrink := slices.Clone(grow)
	for at := range 12 {
		shrink = append(shrink, remove(fmt.Sprint("key", at)))
		if at%5 == 4 {
			shrink = append(shrink, commit)
		}
	}
	return map[string][]do{
		"one":    {put("a", 1), commit},
		"again":  {put("a", 1), commit, put("a", 2), commit, put("a", 3), commit, put("b", 3), commit},
		"empty":  {commit, put("a", 1), commit, remove("a"), commit, commit},
		"long":   {put("a", 300), commit, put("a", 500), put("b", 60), commit, put("a", 2), commit, remove("b"), commit},
		"undo":   {put("a", 300), commit, put("a", 1), put("b", 1), undo, put("c", 1), commit, remove("a"), undo, get("a"), commit},
		"reads":  {put("a", 300), commit, get("a"), put("b", 300), get("b"), get("a"), commit, get("b"), get("a"), remove("a")},
		"grow":   grow,
		"shrink": append(shrink, commit),
	}
}

// fatesOf is all fates that so many writes may have.
func fatesOf(many int) [][]int {
	all := [][]int{nil}
	for range many {
		var more [][]int
		for _, f := range all {
			for fate := range 3 {
				more = append(more, append(slices.Clone(f), fate))
			}
		}
		all = more
	}
	return all
}

// Promise 13.2: wherever the power fails, with each thing that may become of what was not flushed: what is opened then is what was committed last, or, if it failed in Commit, perhaps what that was to commit. Then all that was not done can be done.
func TestEachCut(t *testing.T) {
	for name, script := range scripts() {
		dry := played(t, 40)
		if e, _ := dry.runs(script); e != api.OK {
			t.Fatalf("%s: %d", name, e)
		}
		old, new := 0, 0
		for at := range dry.d.Acts() {
			for _, fates := range fatesOf(4) {
				p := played(t, 40, api.Cut{At: at, Fates: fates})
				e, done := p.runs(script)
				if e != api.ErrPower {
					t.Fatalf("%s, cut in %d: %d", name, at, e)
				}
				p.d.Up()
				inCommit := p.inDoubt
				isNew := p.settles(t, reopened(t, p.d))
				if isNew {
					new++
				} else if inCommit {
					old++
				}
				p.goesOn(t, script, done, isNew)
				if !maps.Equal(p.last, dry.last) {
					t.Fatalf("%s, cut in %d: %d keys at the end, not %d", name, at, len(p.last), len(dry.last))
				}
			}
		}
		if old == 0 || new == 0 {
			t.Errorf("%s: what was to be committed was there %d times, and %d times not", name, new, old)
		}
	}
}

// goesOn does what the power kept from being done: from behind the last commit on, be it one that failed and yet is there.
func (p *play) goesOn(t *testing.T, script []do, done int, isNew bool) {
	t.Helper()
	from := done
	if isNew {
		from++
	}
	for from > 0 && script[from-1] != commit {
		from--
	}
	for _, what := range script[from:] {
		if e := p.does(what); e != api.OK {
			t.Fatalf("what was left to do: %d", e)
		}
	}
	p.settles(t, reopened(t, p.d))
}

// Promise 13.2, in the commit of many pages: those that are written are lost, kept or torn, one unlike the others.
func TestCutsInGreatCommits(t *testing.T) {
	var script []do
	for at := range 8 {
		script = append(script, put(fmt.Sprint("key", at), 200+at))
	}
	script = append(script, commit)
	for at := range 8 {
		script = append(script, put(fmt.Sprint("key", at*2), 500+at))
	}
	script = append(script, remove("key1"))
	dry := played(t, 80)
	dry.runs(script)
	from := dry.d.Acts()
	if e := dry.does(commit); e != api.OK {
		t.Fatalf("Commit = %d", e)
	}
	many := dry.d.Acts() - from
	for seed := range int64(1000) {
		r := rand.New(rand.NewSource(seed))
		p := played(t, 80, api.Cut{At: from + int(seed)%many, Fates: someFates(r, many)})
		p.runs(script)
		if e := p.does(commit); e != api.ErrPower {
			t.Fatalf("Commit = %d", e)
		}
		p.d.Up()
		p.settles(t, reopened(t, p.d))
	}
}

// Promise 13.1: behind an error of Commit, too, all is that error; Undo without power is nothing, and with it what is committed, which the disk alone can say. Promise 13.2 holds of what is done then.
func TestUndoBehindCommit(t *testing.T) {
	ahead := []do{put("a", 300), put("b", 1), commit, put("a", 100), put("c", 60), remove("b")}
	dry := played(t, 40)
	dry.runs(ahead)
	from := dry.d.Acts()
	dry.does(commit)
	old, new := 0, 0
	for at := from; at < dry.d.Acts(); at++ {
		for fate := range 3 {
			first := api.Cut{At: at, Fates: []int{fate, fate, fate, fate}}
			for second := range 26 { // the power fails again: in Undo, in what is done then, or in its commit
				for _, fates := range fatesOf(2) {
					p := played(t, 40, first, api.Cut{At: second, Fates: fates})
					p.runs(ahead)
					if e := p.does(commit); e != api.ErrPower {
						t.Fatalf("Commit = %d", e)
					}
					if p.undone(t) {
						new++
					} else {
						old++
					}
				}
			}
		}
	}
	if old == 0 || new == 0 {
		t.Errorf("what was to be committed was there %d times, and %d times not", new, old)
	}
}

// undone holds that the error of Commit stays until Undo with power, and that the store goes on then: whether what was to be committed is there.
func (p *play) undone(t *testing.T) bool {
	t.Helper()
	x := &bench{T: t, d: p.d, s: p.s}
	x.stuck(api.ErrPower)
	p.s.Undo()
	x.stuck(api.ErrPower)
	p.undoes(t)
	isNew := p.settles(t, p.s)
	for _, what := range []do{put("a", 7), put("d", 100), commit} { // others than those that perhaps were committed
		if e := p.does(what); e == api.ErrPower {
			break
		} else if e != api.OK {
			t.Fatalf("behind Undo: %d", e)
		}
	}
	p.d.Up()
	p.settles(t, reopened(t, p.d))
	return isNew
}

// undoes lets the store be as it was committed, with power given again as often as it fails in that.
func (p *play) undoes(t *testing.T) {
	t.Helper()
	p.d.Up()
	if e := powered(p.d, func() api.Errno { p.s.Undo(); return p.s.Err() }); e != api.OK {
		t.Fatalf("Undo: Err = %d", e)
	}
}

// Promise 13.2, at random: the power fails again and again, wherever it may, and all goes on by Open or by Undo.
func TestWalksWithCuts(t *testing.T) {
	for seed := range int64(200) {
		r := rand.New(rand.NewSource(seed))
		p := played(t, 15+r.Intn(60), someCuts(r)...)
		p.s = reopened(t, p.d)
		for range 150 {
			e := p.does(anything(r))
			if e != api.OK || r.Intn(40) == 0 {
				p.recovers(t, r, e)
			}
		}
	}
}

// recovers goes on: with the store as it is, if it was read alone; by Undo; or by Open.
func (p *play) recovers(t *testing.T, r *rand.Rand, e api.Errno) {
	t.Helper()
	if e != api.OK && e != api.ErrPower && e != api.ErrFull {
		t.Fatalf("an error %d", e)
	}
	p.d.Up()
	switch r.Intn(3) {
	case 0:
		if p.s.Err() == api.OK {
			return
		}
		fallthrough
	case 1:
		p.undoes(t)
		p.settles(t, p.s)
	case 2:
		p.settles(t, reopened(t, p.d))
	}
}

// someFates is fates of so many writes, at random.
func someFates(r *rand.Rand, many int) []int {
	var fates []int
	for range many {
		fates = append(fates, r.Intn(3))
	}
	return fates
}

// someCuts is cuts at random.
func someCuts(r *rand.Rand) []api.Cut {
	var cuts []api.Cut
	for range r.Intn(mostCuts) {
		cuts = append(cuts, api.Cut{At: r.Intn(1 + r.Intn(60)), Fates: someFates(r, r.Intn(20))})
	}
	return cuts
}

// anything is something to do, at random.
func anything(r *rand.Rand) do {
	key := fmt.Sprint("key", r.Intn(20))
	switch r.Intn(10) {
	case 0, 1, 2, 3:
		return put(key, r.Intn(1+r.Intn(600)))
	case 4, 5:
		return remove(key)
	case 6, 7:
		return commit
	default:
		return get(key)
	}
}
