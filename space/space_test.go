package space

import (
	"math"
	"math/rand"
	"slices"
	"testing"
)

// sizes are numbers of places, many of them at and beside the end of a word.
var sizes = []int{1, 2, 3, 7, 63, 64, 65, 127, 128, 129, 200, 1000}

// model is which places are used by the chapter's words alone.
type model []bool

func (m model) used(n int) bool {
	return n < 0 || n >= len(m) || m[n]
}

func (m model) left() int {
	free := 0
	for _, used := range m {
		if !used {
			free++
		}
	}
	return free
}

func (m model) first(from int) int {
	for n := max(from, 0); n < len(m); n++ {
		if !m[n] {
			return n
		}
	}
	return -1
}

// set lets a place be used or free: whether it was not, and is there.
func (m model) set(n int, used bool) bool {
	if n < 0 || n >= len(m) || m[n] == used {
		return false
	}
	m[n] = used
	return true
}

// asked are the places to ask of: all that are there, some beside them, and the outermost.
func asked(many int) []int {
	places := []int{math.MinInt, math.MinInt + 1, -1 << 31, -65, -64, -63, -2}
	for n := -1; n <= many+130; n++ {
		places = append(places, n)
	}
	return append(places, 1<<31, math.MaxInt-1, math.MaxInt)
}

// same holds that places are as the model says.
func same(t *testing.T, s *Space, m model) {
	t.Helper()
	if s.Many() != len(m) || s.Left() != m.left() {
		t.Fatalf("of %d places, %d free: Many() = %d, Left() = %d", len(m), m.left(), s.Many(), s.Left())
	}
	for _, n := range asked(len(m)) {
		if got := s.Used(n); got != m.used(n) {
			t.Fatalf("of %d places: Used(%d) = %t", len(m), n, got)
		}
	}
	// Backward, the first free place is known without a search.
	first := -1
	for from := len(m) + 1; from >= -1; from-- {
		if !m.used(from) {
			first = from
		}
		if got := s.First(from); got != first {
			t.Fatalf("of %d places: First(%d) = %d, not %d", len(m), from, got, first)
		}
	}
}

// use and free hold that Use and Free answer as the model does.
func use(t *testing.T, s *Space, m model, n int) {
	t.Helper()
	if want, got := m.set(n, true), s.Use(n); got != want {
		t.Fatalf("of %d places: Use(%d) = %t", len(m), n, got)
	}
}

func free(t *testing.T, s *Space, m model, n int) {
	t.Helper()
	if want, got := m.set(n, false), s.Free(n); got != want {
		t.Fatalf("of %d places: Free(%d) = %t", len(m), n, got)
	}
}

// full are places that are all used.
func full(t *testing.T, many int) (*Space, model) {
	t.Helper()
	s, m := New(many), make(model, many)
	for n := range many {
		use(t, s, m, n)
	}
	return s, m
}

// Words: places are 0 to Many - 1; at first none is used.
func TestAtFirstNoneIsUsed(t *testing.T) {
	for _, many := range sizes {
		s := New(many)
		for n := range many {
			if s.Used(n) {
				t.Errorf("of %d places, %d is used at first", many, n)
			}
		}
		if !s.Used(-1) || !s.Used(many) {
			t.Errorf("of %d places, -1 or %d is one", many, many)
		}
		same(t, s, make(model, many))
	}
}

// 6.1: New, and how many there are; below 0 counts as 0.
func TestManyIsWhatNewWasGiven(t *testing.T) {
	for _, many := range []int{0, 1, 2, 63, 64, 65, 1 << 14, 1<<20 + 1, math.MaxInt32, math.MaxInt} {
		s := New(many)
		if s.Many() != many || s.Left() != many {
			t.Errorf("New(%d): Many() = %d, Left() = %d", many, s.Many(), s.Left())
		}
	}
	for _, many := range []int{-1, -2, -64, -1 << 31, math.MinInt} {
		if s := New(many); s == nil {
			t.Errorf("New(%d) is nil", many)
		} else {
			same(t, s, model{})
		}
	}
}

// 6.1: where there is no place, all is used and nothing changes; so it is of a Space that New did not make.
func TestOfNoPlaces(t *testing.T) {
	for _, s := range []*Space{New(0), New(-3), {}, New(0).Copy()} {
		for _, n := range asked(0) {
			if !s.Used(n) || s.Use(n) || s.Free(n) || s.First(n) != -1 {
				t.Errorf("without places, something is at %d", n)
			}
		}
		same(t, s, model{})
	}
}

// 6.1: Use and Free tell whether something changed, and Left is what is free behind each.
func TestUseAndFreeOfEachPlace(t *testing.T) {
	for _, many := range sizes {
		for _, n := range asked(many) {
			s, m := New(many), make(model, many)
			there := 0 <= n && n < many
			if s.Free(n) || s.Left() != many {
				t.Fatalf("of %d places: Free(%d) of a free one, or of none", many, n)
			}
			if s.Use(n) != there || s.Use(n) || !s.Used(n) || m.set(n, true) != there {
				t.Fatalf("of %d places: Use(%d)", many, n)
			}
			same(t, s, m)
			if s.Free(n) != there || s.Free(n) || s.Used(n) == there || m.set(n, false) != there {
				t.Fatalf("of %d places: Free(%d)", many, n)
			}
			same(t, s, m)
		}
	}
}

// 6.1: places that are not there stay so, be the others used or free.
func TestPlacesThatAreNotThere(t *testing.T) {
	for _, many := range sizes {
		s, m := full(t, many)
		for _, n := range asked(many) {
			if 0 <= n && n < many {
				continue
			}
			if !s.Used(n) || s.Use(n) || s.Free(n) || s.Left() != 0 {
				t.Errorf("of %d places, all used: %d is one", many, n)
			}
		}
		same(t, s, m)
	}
}

// 6.1: First from below 0, from a used place, from a free one, and from behind the last.
func TestFirst(t *testing.T) {
	s := New(130)
	for n := range 130 {
		if n != 5 && n != 70 && n != 129 {
			s.Use(n)
		}
	}
	for from, want := range map[int]int{
		math.MinInt: 5, -65: 5, -1: 5, 0: 5, 4: 5, 5: 5,
		6: 70, 63: 70, 64: 70, 69: 70, 70: 70,
		71: 129, 127: 129, 128: 129, 129: 129,
		130: -1, 131: -1, 191: -1, 192: -1, 1000: -1, math.MaxInt: -1,
	} {
		if got := s.First(from); got != want {
			t.Errorf("First(%d) = %d, not %d", from, got, want)
		}
	}
	s.Use(129)
	for _, from := range []int{71, 127, 128, 129, 130} {
		if got := s.First(from); got != -1 {
			t.Errorf("First(%d) = %d, with 129 used", from, got)
		}
	}
}

// 6.1: where none is free, First finds none, until one is freed.
func TestFirstWhereNoneIsFree(t *testing.T) {
	for _, many := range sizes {
		s, m := full(t, many)
		for _, from := range asked(many) {
			if got := s.First(from); got != -1 {
				t.Errorf("of %d places, all used: First(%d) = %d", many, from, got)
			}
		}
		for _, n := range []int{0, many / 2, many - 1} {
			free(t, s, m, n)
			same(t, s, m)
			use(t, s, m, n)
		}
	}
}

// 6.1: a copy and what it was copied of don't change one another, at places that have bits already and behind them.
func TestCopyIsItsOwn(t *testing.T) {
	for _, many := range sizes {
		s, m := New(many), make(model, many)
		for n := 0; n < many; n += 3 {
			use(t, s, m, n)
		}
		c, was := s.Copy(), slices.Clone(m)
		if c == s {
			t.Fatalf("of %d places: the copy is what it was copied of", many)
		}
		same(t, c, was)
		for n := range many {
			use(t, s, m, n)
		}
		free(t, s, m, 0)
		same(t, s, m)
		same(t, c, was)
		for n := range many {
			free(t, c, was, n)
		}
		use(t, c, was, many-1)
		same(t, c, was)
		same(t, s, m)
	}
}

// 6.1: a copy of places that are all free has its own, too; so has a copy of a copy.
func TestCopyOfFreePlaces(t *testing.T) {
	s := New(100)
	c := s.Copy()
	d := c.Copy()
	c.Use(7)
	c.Use(70)
	if s.Used(7) || s.Used(70) || d.Used(7) || d.Used(70) || s.Left() != 100 || d.Left() != 100 {
		t.Error("what a copy uses is used in the others")
	}
	if c.Many() != 100 || c.Left() != 98 || c.First(7) != 8 || c.First(70) != 71 {
		t.Error("the copy does not have what it uses")
	}
}

// 6.1: words that two copies let grow behind what they were copied of are not shared.
func TestCopiesGrowApart(t *testing.T) {
	s := New(10000)
	for n := 0; n < 5000; n += 64 {
		s.Use(n)
		c := s.Copy()
		s.Use(n + 65)
		c.Use(n + 66)
		if s.Used(n+66) || c.Used(n+65) {
			t.Fatalf("behind %d, a copy and what it was copied of are one", n)
		}
		s.Free(n + 65)
	}
}

// 6.1: what nil answers.
func TestNil(t *testing.T) {
	var s *Space
	if s.Many() != 0 || s.Left() != 0 {
		t.Errorf("nil: Many() = %d, Left() = %d", s.Many(), s.Left())
	}
	for _, n := range asked(3) {
		if !s.Used(n) || s.Use(n) || s.Free(n) || s.First(n) != -1 {
			t.Errorf("nil: something is at %d", n)
		}
	}
	if s.Copy() != nil {
		t.Error("nil: its copy is not nil")
	}
}

// Example 1 of the chapter.
func TestOfThreePlaces(t *testing.T) {
	s := New(3)
	s.Use(0)
	if got := s.First(0); got != 1 {
		t.Errorf("First(0) = %d", got)
	}
}

// R1, R4: many calls in any order answer as the model does.
func TestAnyOrder(t *testing.T) {
	r := rand.New(rand.NewSource(6))
	for range 60 {
		many := sizes[r.Intn(len(sizes))]
		s, m := New(many), make(model, many)
		for range 300 {
			n := r.Intn(many+6) - 3
			switch r.Intn(5) {
			case 0, 1:
				use(t, s, m, n)
			case 2:
				free(t, s, m, n)
			case 3:
				if got, want := s.First(n), m.first(n); got != want {
					t.Fatalf("of %d places: First(%d) = %d, not %d", many, n, got, want)
				}
				use(t, s, m, s.First(n))
			default:
				s.Use(many + 1)
				s = s.Copy()
			}
		}
		same(t, s, m)
	}
}

// R1: places of which there are very many cost no more than those that are used.
func TestVeryMany(t *testing.T) {
	s := New(math.MaxInt)
	if !s.Use(0) || !s.Use(1<<16) || s.Left() != math.MaxInt-2 || s.First(0) != 1 {
		t.Error("the first of very many")
	}
	if s.First(math.MaxInt-1) != math.MaxInt-1 || s.First(math.MaxInt) != -1 || s.Free(math.MaxInt-1) {
		t.Error("the last of very many")
	}
	if s.Used(math.MaxInt-1) || !s.Used(math.MaxInt) || s.Copy().Many() != math.MaxInt {
		t.Error("what is there of very many")
	}
}
