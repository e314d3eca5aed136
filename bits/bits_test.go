package bits

import (
	"encoding/binary"
	"maps"
	"math"
	"math/rand"
	"slices"
	"testing"

	"keyway/api"
)

// model is a set by the chapter's words alone: the numbers that are in it.
type model map[int]bool

func modelOf(l ...int) model {
	m := model{}
	for _, n := range l {
		if n >= 0 && n < 1<<20 {
			m[n] = true
		}
	}
	return m
}

func (m model) list() []int { return slices.Sorted(maps.Keys(m)) }

// which is the numbers of two models that a rule takes.
func which(a, b model, take func(inA, inB bool) bool) model {
	m := model{}
	for _, n := range append(a.list(), b.list()...) {
		if take(a[n], b[n]) {
			m[n] = true
		}
	}
	return m
}

// The rules of Or, And and Less.
func either(inA, inB bool) bool { return inA || inB }

func both(inA, inB bool) bool { return inA && inB }

func alone(inA, inB bool) bool { return inA && !inB }

// varied is a number in seven bits a byte, by the library's own hand.
func varied(n uint64) string { return string(binary.AppendUvarint(nil, n)) }

// eight is bits as 8 bytes, the lowest first.
func eight(word uint64) string { return string(binary.LittleEndian.AppendUint64(nil, word)) }

// bytes is a model's bytes as the chapter tells them.
func (m model) bytes() string {
	words := map[int]uint64{}
	for n := range m {
		words[n/64] |= 1 << (n % 64)
	}
	form, ahead := varied(uint64(len(words))), -1
	for _, at := range slices.Sorted(maps.Keys(words)) {
		form += varied(uint64(at-ahead-1)) + eight(words[at])
		ahead = at
	}
	return form
}

// lists are numbers of sets: none, one, parts that are full, alike, unlike, far from each other, the outermost numbers.
func lists() [][]int {
	var full, sparse, all []int
	for n := 64; n < 192; n++ {
		full = append(full, n)
	}
	for n := 0; n < api.MostBit; n += 64 * 130 {
		sparse = append(sparse, n, n+63)
	}
	for n := range 1000 {
		all = append(all, n*7)
	}
	return [][]int{
		nil,
		{0},
		{1},
		{0, 1},
		{63},
		{64},
		{1, 64},
		{63, 64, 65},
		{2, 66},
		{127, 128, 129},
		{130, 140, 150},
		{5, 1000, 100000},
		{5, 1001, 100064},
		{1 << 19},
		{api.MostBit - 1},
		{0, api.MostBit - 1},
		{api.MostBit - 65, api.MostBit - 64, api.MostBit - 1},
		full,
		sparse,
		all,
	}
}

// outside are numbers that may be in no set.
var outside = []int{
	math.MinInt, math.MinInt + 1, -1 << 31, -api.MostBit, -129, -128, -65, -64, -63, -2, -1,
	api.MostBit, api.MostBit + 1, api.MostBit + 63, api.MostBit + 64, 2 * api.MostBit, 1 << 31, 1 << 32, math.MaxInt - 1, math.MaxInt,
}

// asked are the numbers to ask a set of: those of a model and those beside them, in the same part and in others, and those that may not be.
func asked(m model) []int {
	numbers := slices.Concat(outside, []int{0, 1, 2, 62, 63, 64, 65, 127, 128, api.MostBit - 65, api.MostBit - 64, api.MostBit - 2, api.MostBit - 1})
	for n := range m {
		numbers = append(numbers, n-64, n-1, n, n+1, n+64)
	}
	return numbers
}

// same holds that a set is what a model says, in all that it may be asked of.
func same(t *testing.T, name string, s Set, m model) {
	t.Helper()
	l := m.list()
	if got := s.List(); !slices.Equal(got, l) {
		t.Errorf("%s: List() = %v, not %v", name, got, l)
	}
	if got := slices.Collect(s.All()); !slices.Equal(got, l) {
		t.Errorf("%s: All() = %v, not %v", name, got, l)
	}
	if s.Many() != len(m) || s.Empty() != (len(m) == 0) {
		t.Errorf("%s: Many() = %d, Empty() = %t, of %d numbers", name, s.Many(), s.Empty(), len(m))
	}
	for _, n := range asked(m) {
		if s.Has(n) != m[n] {
			t.Errorf("%s: Has(%d) = %t", name, n, s.Has(n))
		}
	}
	if form := Put(s); form != m.bytes() {
		t.Errorf("%s: Put = %x, not %x", name, form, m.bytes())
	}
	if again := Of(l...); !s.Same(again) || !again.Same(s) {
		t.Errorf("%s: it is not the same as a set of its numbers", name)
	}
}

// 14.1: Of is a set of numbers, in whatever order they are told, and however often.
func TestOf(t *testing.T) {
	for _, l := range lists() {
		same(t, "Of", Of(l...), modelOf(l...))
		turned := slices.Clone(l)
		slices.Reverse(turned)
		same(t, "Of, falling", Of(turned...), modelOf(l...))
		same(t, "Of, twice", Of(slices.Concat(l, turned, l)...), modelOf(l...))
	}
	same(t, "Of()", Of(), model{})
	same(t, "Of(64, 1)", Of(64, 1), model{1: true, 64: true})
}

// 14.1: numbers that may not be are left out of Of, and the others stay.
func TestOfLeavesOut(t *testing.T) {
	same(t, "Of what may not be", Of(outside...), model{})
	for _, n := range outside {
		same(t, "Of one that may not be", Of(n), model{})
		same(t, "Of one that may not be, among others", Of(70, n, 3, n, 0), model{0: true, 3: true, 70: true})
	}
	same(t, "Of the outermost", Of(-1, 0, api.MostBit-1, api.MostBit), model{0: true, api.MostBit - 1: true})
}

// R2: Of does not change what it is handed, nor keep it.
func TestOfKeepsNothing(t *testing.T) {
	l := []int{70, -1, 3, 3, api.MostBit, 1}
	was := slices.Clone(l)
	s := Of(l...)
	if !slices.Equal(l, was) {
		t.Errorf("Of changed what it was handed: %v", l)
	}
	for i := range l {
		l[i] = 9
	}
	same(t, "Of, changed behind it", s, model{1: true, 3: true, 70: true})
}

// Words: a set that was not made of anything is empty.
func TestZeroSet(t *testing.T) {
	var s Set
	same(t, "the zero set", s, model{})
	if !s.Same(Of()) || !s.Within(s) || !s.Within(Of(1)) || Of(1).Within(s) || s.Same(Of(0)) {
		t.Error("the zero set is not the empty one")
	}
	same(t, "the zero set with 5", s.With(5), model{5: true})
	for n := range s.All() {
		t.Errorf("the zero set has %d", n)
	}
}

// 14.1: With is a set with a number; the one that it was asked of stays as it was.
func TestWith(t *testing.T) {
	for _, l := range lists()[:17] {
		s, m := Of(l...), modelOf(l...)
		for _, n := range asked(m) {
			same(t, "With", s.With(n), modelOf(append(slices.Clone(l), n)...))
		}
		same(t, "what With was asked of", s, m)
	}
}

// 14.1: a number that may not be is left out of With.
func TestWithLeavesOut(t *testing.T) {
	for _, n := range outside {
		for _, l := range [][]int{nil, {0}, {0, 63, api.MostBit - 1}} {
			if s := Of(l...); !s.With(n).Same(s) || s.With(n).Has(n) {
				t.Errorf("With(%d) of %v = %v", n, l, s.With(n).List())
			}
		}
	}
}

// Words: sets that come of one set do not change it, nor each other, be the number in a part that it has, or behind them.
func TestSetsGrowApart(t *testing.T) {
	s, m := Of(), model{}
	for n := 0; n < 40*64; n += 64 {
		low, high := s.With(n+1), s.With(n+2)
		far, both := s.With(api.MostBit-1), low.Or(high)
		same(t, "with the lower one", low, modelOf(append(m.list(), n+1)...))
		same(t, "with the higher one", high, modelOf(append(m.list(), n+2)...))
		same(t, "with a far one", far, modelOf(append(m.list(), api.MostBit-1)...))
		same(t, "with both", both, modelOf(append(m.list(), n+1, n+2)...))
		same(t, "what they came of", s, m)
		s, m = low, modelOf(append(m.list(), n+1)...)
	}
}

// 14.1: Has of numbers in a part that is there, of parts between those that are there, and of those that may not be.
func TestHas(t *testing.T) {
	s := Of(3, 63, 64, 1000, api.MostBit-1)
	for _, n := range []int{3, 63, 64, 1000, api.MostBit - 1} {
		if !s.Has(n) {
			t.Errorf("Has(%d) is false", n)
		}
	}
	for _, n := range append([]int{0, 2, 4, 62, 65, 128, 999, 1001, 1000 - 64, 1000 + 64, api.MostBit - 2, api.MostBit - 64}, outside...) {
		if s.Has(n) || Of().Has(n) {
			t.Errorf("Has(%d) is true", n)
		}
	}
}

// 14.1: Or, And, Less, Within and Same of each two of the sets, which stay as they were.
func TestTwoSets(t *testing.T) {
	for _, l := range lists() {
		for _, k := range lists() {
			s, a, u, b := Of(l...), modelOf(l...), Of(k...), modelOf(k...)
			or := which(a, b, either)
			and := which(a, b, both)
			less := which(a, b, alone)
			same(t, "Or", s.Or(u), or)
			same(t, "And", s.And(u), and)
			same(t, "Less", s.Less(u), less)
			if s.Within(u) != (len(less) == 0) {
				t.Errorf("%v Within %v = %t", l, k, s.Within(u))
			}
			if s.Same(u) != maps.Equal(a, b) {
				t.Errorf("%v Same %v = %t", l, k, s.Same(u))
			}
			if !slices.Equal(s.List(), a.list()) || !slices.Equal(u.List(), b.list()) {
				t.Errorf("%v or %v was changed", l, k)
			}
		}
	}
}

// 14.1: Less is in the first one alone, whichever part the second one has besides.
func TestLess(t *testing.T) {
	s := Of(1, 2, 64, 65, 200)
	same(t, "less one part", s.Less(Of(64, 65)), modelOf(1, 2, 200))
	same(t, "less half of a part", s.Less(Of(2)), modelOf(1, 64, 65, 200))
	same(t, "less what is not there", s.Less(Of(3, 66, 300)), modelOf(1, 2, 64, 65, 200))
	same(t, "less all", s.Less(s), model{})
	same(t, "nothing less", Of().Less(s), model{})
	same(t, "the other way round", Of(2, 3).Less(s), modelOf(3))
}

// 14.1: Within is of all of it; the empty set is within all.
func TestWithin(t *testing.T) {
	for _, c := range []struct {
		first, second []int
		within        bool
	}{
		{nil, nil, true},
		{nil, []int{5}, true},
		{[]int{5}, nil, false},
		{[]int{5}, []int{5}, true},
		{[]int{5}, []int{4, 5, 6}, true},
		{[]int{4, 5}, []int{5}, false},
		{[]int{5}, []int{69}, false},
		{[]int{69}, []int{5}, false},
		{[]int{5, 69}, []int{5, 69, 133}, true},
		{[]int{69}, []int{5, 69, 133}, true},
		{[]int{5, 69, 133}, []int{5, 133}, false},
		{[]int{5, 133}, []int{5, 69}, false},
		{[]int{1, api.MostBit - 1}, []int{1}, false},
	} {
		if got := Of(c.first...).Within(Of(c.second...)); got != c.within {
			t.Errorf("%v Within %v = %t", c.first, c.second, got)
		}
	}
}

// 14.1: the same bits in another part are another set; what becomes empty is the empty set, however it became so.
func TestSameAndEmpty(t *testing.T) {
	if Of(1).Same(Of(65)) || Of(1).Same(Of(1, 65)) || Of(1, 65).Same(Of(1)) || Of(1).Same(Of(2)) || Of(1).Same(Of()) || Of().Same(Of(1)) {
		t.Error("sets that are unlike are the same")
	}
	for _, s := range []Set{Of(), Of(-1), Of(1).And(Of(2)), Of(1).And(Of(65)), Of(1, 65).Less(Of(65, 1)), Of().Or(Of()), Of().With(api.MostBit)} {
		if !s.Empty() || s.Many() != 0 || !s.Same(Of()) || !Of().Same(s) || !s.Same(Set{}) {
			t.Errorf("%v is not empty", s.List())
		}
	}
	if Of(0).Empty() || Of(api.MostBit-1).Empty() {
		t.Error("a set with a number is empty")
	}
}

// 14.1: All rises, may be left early at any place, and may be gone over again, within itself too.
func TestAllLeftEarly(t *testing.T) {
	s := Of(200, 1, 63, 64, api.MostBit-1, 65)
	l := []int{1, 63, 64, 65, 200, api.MostBit - 1}
	all := s.All()
	for most := 1; most <= len(l); most++ {
		var got []int
		for n := range all {
			if got = append(got, n); len(got) == most {
				break
			}
		}
		if !slices.Equal(got, l[:most]) {
			t.Errorf("the first %d: %v", most, got)
		}
	}
	pairs := 0
	for n := range all {
		for m := range all {
			if m > n {
				break
			}
			pairs++
		}
	}
	if pairs != 6*7/2 {
		t.Errorf("gone over within itself: %d pairs", pairs)
	}
	if got := slices.Collect(all); !slices.Equal(got, l) {
		t.Errorf("gone over again: %v", got)
	}
}

// Words: who goes over a set may make others of it on the way.
func TestAllOfWhatGrows(t *testing.T) {
	s := Of(1, 64, 128)
	var got []int
	for n := range s.All() {
		got = append(got, n)
		s = s.With(n + 1)
	}
	if !slices.Equal(got, []int{1, 64, 128}) {
		t.Errorf("All = %v", got)
	}
	same(t, "what was made on the way", s, modelOf(1, 2, 64, 65, 128, 129))
}

// R2: a list is the caller's own.
func TestListIsItsOwn(t *testing.T) {
	s := Of(1, 2, 64)
	l := s.List()
	for i := range l {
		l[i] = 9
	}
	same(t, "a set whose list was changed", s, modelOf(1, 2, 64))
}

// Example 1 of the chapter, and other sets' bytes.
func TestPut(t *testing.T) {
	for _, c := range []struct {
		l    []int
		form string
	}{
		{nil, "\x00"},
		{[]int{0}, "\x01" + "\x00\x01\x00\x00\x00\x00\x00\x00\x00"},
		{[]int{1, 64}, "\x02" + "\x00\x02\x00\x00\x00\x00\x00\x00\x00" + "\x00\x01\x00\x00\x00\x00\x00\x00\x00"},
		{[]int{8, 63}, "\x01" + "\x00\x00\x01\x00\x00\x00\x00\x00\x80"},
		{[]int{64}, "\x01" + "\x01\x01\x00\x00\x00\x00\x00\x00\x00"},
		{[]int{0, 128, 1000}, "\x03" + "\x00\x01\x00\x00\x00\x00\x00\x00\x00" + "\x01\x01\x00\x00\x00\x00\x00\x00\x00" + "\x0c\x00\x00\x00\x00\x00\x01\x00\x00"},
		{[]int{128 * 64}, "\x01" + "\x80\x01\x01\x00\x00\x00\x00\x00\x00\x00"},
		{[]int{0, 129 * 64}, "\x02" + "\x00\x01\x00\x00\x00\x00\x00\x00\x00" + "\x80\x01\x01\x00\x00\x00\x00\x00\x00\x00"},
		{[]int{api.MostBit - 1}, "\x01" + "\xff\x7f\x00\x00\x00\x00\x00\x00\x00\x80"},
	} {
		if form := Put(Of(c.l...)); form != c.form {
			t.Errorf("Put of %v = %x, not %x", c.l, form, c.form)
		}
		s, e := Get(c.form)
		if e != api.OK {
			t.Errorf("Get of the bytes of %v: error %d", c.l, e)
		}
		same(t, "Get", s, modelOf(c.l...))
	}
}

// 14.1: Get of what Put answers is the set, and of what the chapter's words say.
func TestGetOfPut(t *testing.T) {
	for _, l := range lists() {
		s, e := Get(Put(Of(l...)))
		if e != api.OK {
			t.Errorf("Get of Put: error %d", e)
		}
		same(t, "Get of Put", s, modelOf(l...))
	}
}

// 14.1: the greatest set: all numbers.
func TestAllNumbers(t *testing.T) {
	l := make([]int, api.MostBit)
	form := varied(api.MostBit / 64)
	for n := range l {
		l[n] = n
		if n%64 == 0 {
			form += "\x00" + eight(math.MaxUint64)
		}
	}
	s := Of(l...)
	if s.Many() != api.MostBit || !slices.Equal(s.List(), l) || Put(s) != form {
		t.Errorf("all numbers: Many() = %d, %d bytes", s.Many(), len(Put(s)))
	}
	if got, e := Get(form); e != api.OK || !got.Same(s) {
		t.Errorf("Get of all numbers: %d, error %d", got.Many(), e)
	}
	if !s.With(api.MostBit).Same(s) || !s.Less(Of(5)).With(5).Same(s) || s.Less(Of(5)).Many() != api.MostBit-1 || !s.Less(s).Empty() {
		t.Error("all numbers, with one and less one")
	}
}

// fails holds that Get tells an error of bytes, and the empty set.
func fails(t *testing.T, name, form string, want api.Errno) {
	t.Helper()
	if s, e := Get(form); e != want || !s.Empty() || s.parts != nil {
		t.Errorf("%s: Get = %v, error %d, not %d", name, s.List(), e, want)
	}
}

// one is the bytes of a part, so many behind the one ahead.
func one(over, word uint64) string { return varied(over) + eight(word) }

// 14.1: ErrForm of a part that is empty, wherever it stands.
func TestGetOfAnEmptyPart(t *testing.T) {
	fails(t, "alone", "\x01"+one(0, 0), api.ErrForm)
	fails(t, "first", "\x02"+one(0, 0)+one(0, 1), api.ErrForm)
	fails(t, "last", "\x02"+one(0, 1)+one(0, 0), api.ErrForm)
	fails(t, "in the midst", "\x03"+one(7, 1)+one(7, 0)+one(7, 1), api.ErrForm)
	fails(t, "the last that may be", "\x01"+one(api.MostBit/64-1, 0), api.ErrForm)
	fails(t, "and nothing behind it", "\x02"+one(0, 0), api.ErrForm)
	fails(t, "and more behind it", "\x01"+one(0, 0)+"x", api.ErrForm)
}

// 14.1: ErrForm of a part beyond MostBit, however far; the last one that is not may be.
func TestGetOfAPartBeyond(t *testing.T) {
	last := uint64(api.MostBit/64 - 1)
	if s, e := Get("\x01" + one(last, 1)); e != api.OK || !s.Same(Of(api.MostBit-64)) {
		t.Errorf("the last part: %v, error %d", s.List(), e)
	}
	if s, e := Get("\x02" + one(0, 1) + one(last-1, 1)); e != api.OK || !s.Same(Of(0, api.MostBit-64)) {
		t.Errorf("the last part behind the first one: %v, error %d", s.List(), e)
	}
	for _, over := range []uint64{last + 1, last + 2, api.MostBit - 1, api.MostBit, api.MostBit + 1, 1 << 31, 1 << 32, 1 << 58, 1<<58 + 1, 1<<63 - 1, 1 << 63, math.MaxUint64 - 1, math.MaxUint64} {
		fails(t, "a part beyond", "\x01"+one(over, 1), api.ErrForm)
		fails(t, "a part beyond, behind another one", "\x02"+one(0, 1)+one(over, 1), api.ErrForm)
		fails(t, "a part beyond, and empty", "\x01"+one(over, 0), api.ErrForm)
		fails(t, "a part beyond, whose bits lack", "\x01"+varied(over), api.ErrForm)
		fails(t, "a part beyond, and more", "\x01"+one(over, 1)+"x", api.ErrForm)
	}
	fails(t, "one too far behind another one", "\x02"+one(0, 1)+one(last, 1), api.ErrForm)
	fails(t, "behind the last one", "\x02"+one(last, 1)+one(0, 1), api.ErrForm)
	fails(t, "far behind the last one", "\x02"+one(last, 1)+one(math.MaxUint64, 1), api.ErrForm)
	fails(t, "far behind, so that it would come round", "\x02"+one(9, 1)+one(math.MaxUint64-8, 1), api.ErrForm)
}

// 14.1: ErrOver of more parts than there are below MostBit.
func TestGetOfTooManyParts(t *testing.T) {
	for _, many := range []uint64{api.MostBit/64 + 1, api.MostBit / 32, api.MostBit, 1 << 32, 1 << 63, math.MaxUint64} {
		fails(t, "no parts", varied(many), api.ErrOver)
		fails(t, "a part", varied(many)+one(0, 1), api.ErrOver)
		fails(t, "an empty part", varied(many)+one(0, 0), api.ErrOver)
	}
	fails(t, "as many as may be, of which all lack", varied(api.MostBit/64), api.ErrShort)
}

// 14.1: a reader's errors: bytes that lack at each place, bytes that are left, numbers that are not in their form.
func TestGetOfWhatAReaderRefuses(t *testing.T) {
	for _, l := range lists()[:17] {
		form := Put(Of(l...))
		for short := range len(form) {
			fails(t, "bytes lack", form[:short], api.ErrShort)
		}
		fails(t, "a byte is left", form+"\x00", api.ErrMore)
		fails(t, "bytes are left", form+one(0, 1), api.ErrMore)
	}
	fails(t, "how many, not in its form", "\x81\x00"+one(0, 1), api.ErrForm)
	fails(t, "none, not in its form", "\x80\x00", api.ErrForm)
	fails(t, "how far, not in its form", "\x01\x80\x00"+eight(1), api.ErrForm)
	fails(t, "how many, above 64 bits", "\xff\xff\xff\xff\xff\xff\xff\xff\xff\x02"+one(0, 1), api.ErrForm)
	fails(t, "how far, above 64 bits", "\x01\xff\xff\xff\xff\xff\xff\xff\xff\xff\x02"+eight(1), api.ErrForm)
}

// R1, R4: of any bytes Get ends, answers twice the same, and tells a set only of just the bytes that Put makes of it.
func TestGetOfAnyBytes(t *testing.T) {
	r := rand.New(rand.NewSource(14))
	for range 20000 {
		form := []byte(Put(Of(someNumbers(r)...)))
		for range r.Intn(3) {
			form[r.Intn(len(form))] = byte(r.Intn(256) >> r.Intn(9))
		}
		s, e := Get(string(form))
		if e == api.OK && Put(s) != string(form) {
			t.Fatalf("Get of %x = %v, whose bytes are others", form, s.List())
		}
		if again, f := Get(string(form)); f != e || !again.Same(s) || e != api.OK && !s.Empty() {
			t.Fatalf("Get of %x: errors %d and %d", form, e, f)
		}
	}
}

// someNumbers are numbers at random, near each other or far, of which some may not be.
func someNumbers(r *rand.Rand) []int {
	from, reach := r.Intn(api.MostBit), []int{20, 200, 2000, 2 * api.MostBit}[r.Intn(4)]
	if r.Intn(2) == 0 {
		from = -5
	}
	var l []int
	for range r.Intn(12) {
		l = append(l, from+r.Intn(reach))
	}
	return l
}

// R1, R4: sets that come of each other at random are what the model says.
func TestAnyOrder(t *testing.T) {
	r := rand.New(rand.NewSource(141))
	for range 100 {
		s, m := Set{}, model{}
		for range 30 {
			l := someNumbers(r)
			u, b := Of(l...), modelOf(l...)
			switch r.Intn(5) {
			case 0:
				s, m = s.And(u.Or(s.Less(Of(s.Many())))), which(m, which(b, without(m, len(m)), either), both)
			case 1:
				s, m = s.Less(u), which(m, b, alone)
			case 2:
				for _, n := range l {
					s, m = s.With(n), which(m, modelOf(n), either)
				}
			default:
				s, m = s.Or(u), which(m, b, either)
			}
			if s.Within(u) != (len(which(m, b, alone)) == 0) {
				t.Fatalf("%v Within %v = %t", s.List(), u.List(), s.Within(u))
			}
			same(t, "at random", s, m)
		}
	}
}

// without is a model less a number.
func without(m model, n int) model {
	less := maps.Clone(m)
	delete(less, n)
	return less
}
