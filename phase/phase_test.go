package phase

import (
	"encoding/hex"
	"maps"
	"math"
	"math/rand"
	"slices"
	"testing"

	"keyway/api"
	"keyway/cache"
	"keyway/disk"
	"keyway/store"
	"keyway/wire"
)

const beyond = 1 << 62 // the first number of steps or commits that may not be, by the chapter

// memory is keys and texts in a map.
type memory map[string]string

func (m memory) Get(key string) (string, bool, api.Errno) {
	text, is := m[key]
	return text, is, api.OK
}

func (m memory) Put(key, text string) api.Errno {
	m[key] = text
	return api.OK
}

func (m memory) Delete(key string) (bool, api.Errno) {
	_, is := m[key]
	delete(m, key)
	return is, api.OK
}

// phases are all that the chapter tells, by their names, in its order.
var phases = []int{
	api.PhaseNone, api.PhaseReach, api.PhaseRoots, api.PhaseGives,
	api.PhaseMust, api.PhaseMay, api.PhaseText, api.PhaseDone,
}

// numbers are of steps or commits that may be: small ones, those where a number gets a byte more, and the greatest.
var numbers = []uint64{0, 1, 5, 127, 128, 16383, 16384, math.MaxUint32, 1 << 61, beyond - 1}

// records are all of these.
func records() []api.Phase {
	var all []api.Phase
	for _, phase := range phases {
		for _, steps := range numbers {
			for _, commits := range numbers {
				all = append(all, api.Phase{Phase: phase, Steps: steps, Commits: commits})
			}
		}
	}
	return all
}

// unlike are records that may not be.
func unlike() []api.Phase {
	return []api.Phase{
		{Phase: -1},
		{Phase: -1, Steps: 5, Commits: 2},
		{Phase: math.MinInt},
		{Phase: api.PhaseDone + 1},
		{Phase: api.PhaseDone + 1, Steps: 5, Commits: 2},
		{Phase: 1 << 8},
		{Phase: math.MaxInt},
		{Phase: 1, Steps: beyond, Commits: 2},
		{Phase: 1, Steps: math.MaxUint64, Commits: 2},
		{Phase: 1, Steps: 5, Commits: beyond},
		{Phase: 1, Steps: 5, Commits: math.MaxUint64},
		{Steps: beyond, Commits: beyond},
		{Phase: math.MaxInt, Steps: math.MaxUint64, Commits: math.MaxUint64},
	}
}

// said holds what Of tells of bytes.
func said(t *testing.T, s string, want api.Phase, err api.Errno) {
	t.Helper()
	if p, e := Of(s); p != want || e != err {
		t.Errorf("Of(%x) = %v, %d; not %v, %d", s, p, e, want, err)
	}
}

// loaded holds what Load tells of keys and texts.
func loaded(t *testing.T, kv api.KV, want api.Phase, err api.Errno) {
	t.Helper()
	if p, e := Load(kv); p != want || e != err {
		t.Errorf("Load() = %v, %d; not %v, %d", p, e, want, err)
	}
}

// saved holds what Save of a record tells.
func saved(t *testing.T, kv api.KV, p api.Phase, err api.Errno) {
	t.Helper()
	if e := Save(kv, p); e != err {
		t.Errorf("Save(%v) = %d, not %d", p, e, err)
	}
}

// The chapter's example.
func TestExample(t *testing.T) {
	p := api.Phase{Phase: 1, Steps: 5, Commits: 2}
	if got := hex.EncodeToString([]byte(Text(p))); got != "010502" {
		t.Errorf("Text(%v) = %s", p, got)
	}
	said(t, "\x01\x05\x02", p, api.OK)
	m := memory{}
	saved(t, m, p, api.OK)
	if !maps.Equal(m, memory{"z": "\x01\x05\x02"}) {
		t.Errorf("kept: %q", m)
	}
	loaded(t, m, p, api.OK)
}

// Words: the phases are 0 to 7, in the order of the work.
func TestPhases(t *testing.T) {
	for want, phase := range phases {
		if phase != want {
			t.Errorf("phase %d is %d", want, phase)
		}
	}
}

// 17.1: May tells which records may be: each phase from PhaseNone to PhaseDone, with each number below 2^62.
func TestMay(t *testing.T) {
	for _, p := range records() {
		if !May(p) {
			t.Errorf("May(%v) is false", p)
		}
	}
	for _, p := range unlike() {
		if May(p) {
			t.Errorf("May(%v) is true", p)
		}
	}
	for phase := -300; phase <= 300; phase++ {
		if p := (api.Phase{Phase: phase}); May(p) != (phase >= 0 && phase <= 7) {
			t.Errorf("May(%v) is %t", p, May(p))
		}
	}
}

// 17.1: Text is the three numbers, in their order, and Of of these is the record.
func TestTextAndOf(t *testing.T) {
	for _, p := range records() {
		want := wire.Num(uint64(p.Phase)) + wire.Num(p.Steps) + wire.Num(p.Commits)
		if got := Text(p); got != want {
			t.Errorf("Text(%v) = %x, not %x", p, got, want)
		}
		said(t, want, p, api.OK)
	}
}

// 17.1: bytes that are written out here, so that they hang on no other layer.
func TestBytes(t *testing.T) {
	for text, p := range map[string]api.Phase{
		"000000":                 {},
		"000102":                 {Steps: 1, Commits: 2},
		"070000":                 {Phase: 7},
		"02ac0201":               {Phase: 2, Steps: 300, Commits: 1},
		"0600ac02":               {Phase: 6, Commits: 300},
		"037f8001":               {Phase: 3, Steps: 127, Commits: 128},
		"05ffffffffffffffff3f00": {Phase: 5, Steps: beyond - 1},
		"0401ffffffffffffffff3f": {Phase: 4, Steps: 1, Commits: beyond - 1},
		"0780808080808080802009": {Phase: 7, Steps: 1 << 61, Commits: 9},
	} {
		if got := hex.EncodeToString([]byte(Text(p))); got != text {
			t.Errorf("Text(%v) = %s, not %s", p, got, text)
		}
		bytes, err := hex.DecodeString(text)
		if err != nil {
			t.Fatal(err)
		}
		said(t, string(bytes), p, api.OK)
	}
}

// 17.1: Text of a record that may not be is nothing.
func TestTextOfWhatMayNotBe(t *testing.T) {
	for _, p := range unlike() {
		if got := Text(p); got != "" {
			t.Errorf("Text(%v) = %x", p, got)
		}
	}
}

// 17.1: two records have no bytes in common.
func TestTextsAreUnlike(t *testing.T) {
	of := map[string]api.Phase{}
	for _, p := range records() {
		if other, is := of[Text(p)]; is {
			t.Errorf("%v and %v have the same bytes", p, other)
		}
		of[Text(p)] = p
	}
}

// 17.1: Of tells a reader's error of each thing that may be wrong, with no record beside it.
func TestOfWrongBytes(t *testing.T) {
	over := wire.Num(beyond)
	for text, want := range map[string]api.Errno{
		"":                                    api.ErrShort,
		"\x01":                                api.ErrShort,
		"\x01\x05":                            api.ErrShort,
		"\x01\x05\x80":                        api.ErrShort,
		"\x81":                                api.ErrShort,
		"\x01\x85":                            api.ErrShort,
		"\x01\x05\x02\x00":                    api.ErrMore,
		"\x01\x05\x02z":                       api.ErrMore,
		"\x08\x05\x02":                        api.ErrOver,
		"\x7f\x05\x02":                        api.ErrOver,
		"\x81\x02\x05\x02":                    api.ErrOver, // 257: of which one byte alone would be a phase
		"\x08":                                api.ErrOver, // ahead of what is missing
		"\x08\x05\x02\x00":                    api.ErrOver, // ahead of what is left
		"\x01" + over + "\x02":                api.ErrOver,
		"\x01\x05" + over:                     api.ErrOver,
		"\x01\x05" + wire.Num(math.MaxUint64): api.ErrOver,
		"\x01" + wire.Num(math.MaxUint64) + "\x02":     api.ErrOver,
		wire.Num(math.MaxUint64) + "\x05\x02":          api.ErrOver,
		wire.Num(1<<63) + "\x05\x02":                   api.ErrOver,
		"\x81\x00\x05\x02":                             api.ErrForm, // 1 in a form that is not the shortest
		"\x01\x85\x00\x02":                             api.ErrForm,
		"\x01\x05\x82\x00":                             api.ErrForm,
		"\xff\xff\xff\xff\xff\xff\xff\xff\xff\x02":     api.ErrForm, // above 64 bits
		"\x01\xff\xff\xff\xff\xff\xff\xff\xff\xff\x02": api.ErrForm,
	} {
		said(t, text, api.Phase{}, want)
	}
}

// 17.1: whatever the bytes, Of tells a record that has just these, or an error and no record.
func TestOfAnyBytes(t *testing.T) {
	chance := rand.New(rand.NewSource(17))
	good := 0
	for range 20000 {
		bytes := make([]byte, chance.Intn(8))
		for at := range bytes {
			bytes[at] = []byte{0, 1, 7, 8, 127, 128, 129, 255}[chance.Intn(8)]
		}
		p, e := Of(string(bytes))
		if e == api.OK {
			good++
		}
		if e == api.OK && (!May(p) || Text(p) != string(bytes)) || e != api.OK && p != (api.Phase{}) {
			t.Fatalf("Of(%x) = %v, %d", bytes, p, e)
		}
		if !slices.Contains([]api.Errno{api.OK, api.ErrShort, api.ErrForm, api.ErrOver, api.ErrMore}, e) {
			t.Fatalf("Of(%x): error %d is none of a reader", bytes, e)
		}
	}
	if good == 0 {
		t.Error("no bytes were a record's")
	}
}

// 17.1: Load tells all 0 where no record is kept, and puts none there.
func TestLoadOfNone(t *testing.T) {
	m := memory{"": "\x01\x05\x02", "y": "\x01\x05\x02", "z\x00": "\x01\x05\x02", "Z": "\x01\x05\x02"}
	was := maps.Clone(m)
	loaded(t, m, api.Phase{}, api.OK)
	if !maps.Equal(m, was) {
		t.Errorf("Load changed the keys: %q", m)
	}
}

// 17.1: Save keeps a record in the place of the one that was kept, touches no other key, and Load tells it.
func TestSaveAndLoad(t *testing.T) {
	m := memory{"y": "1", "z\x00": "2"}
	for _, p := range records() {
		saved(t, m, p, api.OK)
		if !maps.Equal(m, memory{"y": "1", "z": Text(p), "z\x00": "2"}) {
			t.Fatalf("of %v is kept: %q", p, m)
		}
		loaded(t, m, p, api.OK)
		loaded(t, m, p, api.OK)
	}
}

// 17.1: a record of nothing is kept, too.
func TestSaveOfNothing(t *testing.T) {
	m := memory{}
	saved(t, m, api.Phase{Phase: 3, Steps: 9, Commits: 1}, api.OK)
	saved(t, m, api.Phase{}, api.OK)
	if !maps.Equal(m, memory{"z": "\x00\x00\x00"}) {
		t.Errorf("kept: %q", m)
	}
	loaded(t, m, api.Phase{}, api.OK)
}

// 17.1: over a store a record is there for good with the commit, and over keys that are held when they are written.
func TestOverAStore(t *testing.T) {
	d, e := disk.New(64, nil)
	if e != api.OK {
		t.Fatal(e)
	}
	s, e := store.Open(d)
	if e != api.OK {
		t.Fatal(e)
	}
	loaded(t, s, api.Phase{}, api.OK)
	first := api.Phase{Phase: 2, Steps: 100, Commits: 1}
	saved(t, s, first, api.OK)
	if e := s.Commit(); e != api.OK {
		t.Fatal(e)
	}
	held := cache.New(s, 4)
	loaded(t, held, first, api.OK)
	second := api.Phase{Phase: 7, Steps: beyond - 1, Commits: beyond - 1}
	saved(t, held, second, api.OK)
	loaded(t, held, second, api.OK)
	loaded(t, s, first, api.OK)
	if e := held.Sync(); e != api.OK {
		t.Fatal(e)
	}
	loaded(t, s, second, api.OK)
	s.Undo()
	loaded(t, s, first, api.OK)
	again, e := store.Open(d)
	if e != api.OK {
		t.Fatal(e)
	}
	loaded(t, again, first, api.OK)
}
